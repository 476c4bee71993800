/- The outer step of the statements: from the reading of the arguments to values, and back. -/
import Derived.Test.YtomiacedailmaaaCW
import Derived.ProofKit
import Derived.OpenShut
import Derived.JoinedCond
import Derived.Deep.Slices
import Derived.Deep.Fields
namespace Go.Proofs.Ytomiacedailmaaa
open Go.ChangeShapes Go.WideShapes Go.ChangeAt Go.RowKit

theorem prog_own : ownKnob Try.prog.godebug = none := by kernel_rfl
theorem prog_laid : laidOutB Try.prog = true := by kernel_rfl
theorem read_val : Try.prog.readableRec 24 = true := by kernel_rfl
theorem read_vals : Try.prog.readableRec 22 = true := by kernel_rfl
theorem read_bytes : Try.prog.readableRec 27 = true := by kernel_rfl
theorem read_int : Try.prog.readableRec 3 = true := by kernel_rfl
theorem cells_val : Try.prog.cellsOf 24 = 4 := by kernel_rfl
theorem cells_u8 : Try.prog.cellsOf 5 = 1 := by kernel_rfl

section
variable {H : Type} {enc : TypeId × Value → H}

theorem rd_build {W : World} {S : Nat → Prop} {b : Nat} : ∀ (n o : Nat), (∀ i, i < n → ∃ (v : V) (A : Option Addr) (cap : Nat), RdV W S v A cap ∧ W.cell? ⟨b, o + i * 4, none⟩ = some (.int .i64 v.k) ∧ W.cell? ⟨b, o + i * 4 + 1, none⟩ = some (.int .i64 v.n) ∧
      W.cell? ⟨b, o + i * 4 + 2, none⟩ = some (.string v.s) ∧ W.cell? ⟨b, o + i * 4 + 3, none⟩ = some (.slice A v.l.len cap)) → ∃ f : F, f.len = n ∧ f.Rd W S b o
  | 0, _, _ => ⟨.nil, rfl, trivial⟩
  | n + 1, o, h => by
    obtain ⟨v, A, cap, hv, c0, c1, c2, c3⟩ := h 0 (by omega)
    obtain ⟨f, hf, hr⟩ := rd_build n (o + 4) (fun i hi => by
      obtain ⟨v, A, cap, hv, c0, c1, c2, c3⟩ := h (i + 1) (by omega)
      rw [show o + (i + 1) * 4 = o + 4 + i * 4 from by omega] at c0 c1 c2 c3
      exact ⟨v, A, cap, hv, c0, c1, c2, c3⟩)
    simp only [Nat.zero_mul, Nat.add_zero] at c0 c1 c2 c3
    exact ⟨.cons v.k v.n v.s v.l f, by simp [F.len, hf], hv.1, c0, c1, c2, ⟨A, cap, c3, hv.2.1, hv.2.2.1, hv.2.2.2⟩, hr⟩

theorem take_drop_one {l : List Value} {i : Nat} {v : Value} (h : l[i]? = some v) : (l.drop i).take 1 = [v] := by
  have hi : i < l.length := (List.getElem?_eq_some_iff.1 h).1
  rw [List.drop_eq_getElem_cons hi]
  have : l[i] = v := (List.getElem?_eq_some_iff.1 h).2
  rw [this]; rfl

theorem open_both (W : World) : ∀ (fuel : Nat),
    (∀ (cs : List Value) (x : DataW H × List MemPlace), DataW.trod enc Try.prog W 0 (fun _ => true) true fuel 24 cs = some x → ∃ (v : V) (A : Option Addr) (cap : Nat), cs = [.int .i64 v.k, .int .i64 v.n, .string v.s, .slice A v.l.len cap] ∧ RdV W (· < W.heap.size) v A cap) ∧
    (∀ (cs : List Value) (x : DataW H × List MemPlace), DataW.trod enc Try.prog W 0 (fun _ => true) true fuel 22 cs = some x → ∃ (f : F) (A : Option Addr) (cap : Nat), cs = [.slice A f.len cap] ∧ Sl W (· < W.heap.size) f A cap) := by
  intro fuel
  induction fuel with
  | zero => exact ⟨fun cs x h => by simp [DataW.trod] at h, fun cs x h => by simp [DataW.trod] at h⟩
  | succ n ih =>
    refine ⟨fun cs x h => ?_, fun cs x h => ?_⟩
    · obtain ⟨xs, n', hn, _, hlen, _, hf⟩ := DataW.trod_struct Try.underlying24 h
      obtain rfl : n = n' := by omega
      rw [cells_val] at hlen
      match cs, hlen with
      | [a, b, c, d], _ =>
        have c3 : Try.prog.cellsOf 3 = 1 := by kernel_rfl
        have c9 : Try.prog.cellsOf 9 = 1 := by kernel_rfl
        have c22 : Try.prog.cellsOf 22 = 1 := by kernel_rfl
        have h0 : DataW.trod enc Try.prog W 0 (fun _ => true) true n 3 (List.take (Try.prog.cellsOf 3) (List.drop 0 [a, b, c, d])) = xs[0]? := hf 0 _ rfl
        have h1 : DataW.trod enc Try.prog W 0 (fun _ => true) true n 3 (List.take (Try.prog.cellsOf 3) (List.drop 1 [a, b, c, d])) = xs[1]? := hf 1 _ rfl
        have h2 : DataW.trod enc Try.prog W 0 (fun _ => true) true n 9 (List.take (Try.prog.cellsOf 9) (List.drop 2 [a, b, c, d])) = xs[2]? := hf 2 _ rfl
        have h3 : DataW.trod enc Try.prog W 0 (fun _ => true) true n 22 (List.take (Try.prog.cellsOf 22) (List.drop 3 [a, b, c, d])) = xs[3]? := hf 3 _ rfl
        rw [c3] at h0 h1
        rw [c9] at h2
        rw [c22] at h3
        obtain ⟨y0, e0⟩ : ∃ y, xs[0]? = some y := ⟨_, List.getElem?_eq_getElem (by simp_all)⟩
        obtain ⟨y1, e1⟩ : ∃ y, xs[1]? = some y := ⟨_, List.getElem?_eq_getElem (by simp_all)⟩
        obtain ⟨y2, e2⟩ : ∃ y, xs[2]? = some y := ⟨_, List.getElem?_eq_getElem (by simp_all)⟩
        obtain ⟨y3, e3⟩ : ∃ y, xs[3]? = some y := ⟨_, List.getElem?_eq_getElem (by simp_all)⟩
        rw [e0] at h0
        rw [e1] at h1
        rw [e2] at h2
        rw [e3] at h3
        obtain ⟨k, hk, _, wk⟩ := DataW.trod_int Try.underlying3 h0
        obtain ⟨m, hm, _, wm⟩ := DataW.trod_int Try.underlying3 h1
        obtain ⟨s, hs, _, ws⟩ := DataW.trod_string Try.underlying9 h2
        obtain ⟨f, A, cap, hsl, hrd⟩ := ih.2 _ _ h3
        have bk := bounds_i64 wk
        have bm := bounds_i64 wm
        simp at hk hm hs hsl
        exact ⟨⟨k, m, s, f⟩, A, cap, by rw [hk, hm, hs, hsl], ⟨bk.1, bk.2, bm.1, bm.2, ws⟩, hrd⟩
    · rcases DataW.trod_slice Try.underlying22 h with ⟨rfl, _⟩ | ⟨a, len, cap, elems, rest, n', hn, rfl, _, _, hl, hm, hel, hi, _⟩
      · exact ⟨.nil, none, 0, rfl, Nat.le_refl _, Nat.zero_le _, fun h => absurd h (by simp [F.len])⟩
      · obtain rfl : n = n' := by omega
        rw [cells_val] at hi
        have he : ∀ i, i < len → ∃ (v : V) (A : Option Addr) (cap : Nat), RdV W (· < W.heap.size) v A cap ∧ W.cells? 0 (a.add (i * 4)) 4 = some [.int .i64 v.k, .int .i64 v.n, .string v.s, .slice A v.l.len cap] := fun i hlt => by
          have h1 := hi i hlt
          rw [List.getElem?_eq_getElem (by omega)] at h1
          obtain ⟨cs, hc, ht⟩ := Option.bind_eq_some_iff.1 h1
          obtain ⟨v, A, cap, rfl, hv⟩ := ih.1 _ _ ht
          exact ⟨v, A, cap, hv, hc⟩
        rcases Nat.eq_zero_or_pos len with rfl | hp
        · exact ⟨.nil, some a, cap, rfl, hl, hm, fun h => absurd h (by simp [F.len])⟩
        · obtain ⟨b, o, spot⟩ := a
          have hspot : spot = none := by
            obtain ⟨v, A, cap, _, hc⟩ := he 0 hp
            have := (World.cells?_some hc).2.2 0 (by omega)
            exact World.cell?_spot (w := W) (a := ⟨b, o, spot⟩) (v := .int .i64 v.k) (by simpa [Addr.add] using this)
          subst hspot
          have hb : ∀ i, i < len → ∀ j, j < 4 → ∀ (cs : List Value), W.cells? 0 ((⟨b, o, none⟩ : Addr).add (i * 4)) 4 = some cs → W.cell? ⟨b, o + i * 4 + j, none⟩ = cs[j]? := fun i _ j hj cs hc => by
            have := (World.cells?_some hc).2.2 j hj
            rw [add_plain, add_plain] at this
            exact this
          obtain ⟨f, hf, hr⟩ := rd_build (W := W) (S := (· < W.heap.size)) (b := b) len o (fun i hlt => by
            obtain ⟨v, A, cap, hv, hc⟩ := he i hlt
            exact ⟨v, A, cap, hv, hb i hlt 0 (by omega) _ hc, hb i hlt 1 (by omega) _ hc, hb i hlt 2 (by omega) _ hc, hb i hlt 3 (by omega) _ hc⟩)
          refine ⟨f, some ⟨b, o, none⟩, cap, by rw [hf], by rw [hf]; exact hl, hm, fun _ => ⟨b, o, rfl, ?_, hr⟩⟩
          obtain ⟨v, A, cap, _, hc⟩ := he 0 hp
          have := hb 0 hp 0 (by omega) _ hc
          exact World.block_lt_of_cell? W ⟨b, o + 0 * 4 + 0, none⟩ this

theorem open_bytes {W : World} {cs : List Value} {x : DataW H × List MemPlace} {fuel : Nat} (h : DataW.trod enc Try.prog W 0 (fun _ => true) true fuel 27 cs = some x) :
    ∃ (l : List UInt8) (A : Option Addr) (cap : Nat), cs = [.slice A l.length cap] ∧ Byt W (· < W.heap.size) l A cap := by
  rcases DataW.trod_slice Try.underlying27 h with ⟨rfl, _⟩ | ⟨a, len, cap, elems, rest, n', hn, rfl, _, _, hl, hm, hel, hi, _⟩
  · exact ⟨[], none, 0, rfl, Nat.le_refl _, Nat.zero_le _, fun h => absurd h (by simp)⟩
  · rw [cells_u8] at hi
    have he : ∀ i, i < len → ∃ c : UInt8, W.cell? (a.add i) = some (.int .u8 c.toNat) := fun i hlt => by
      have h1 := hi i hlt
      rw [List.getElem?_eq_getElem (by omega)] at h1
      obtain ⟨cs, hc, ht⟩ := Option.bind_eq_some_iff.1 h1
      obtain ⟨k, rfl, _, wk⟩ := DataW.trod_int Try.underlying5 ht
      have bk := bounds_u8 wk
      have := (World.cells?_some hc).2.2 0 (by omega)
      rw [Go.Deep.add_add] at this
      refine ⟨UInt8.ofNat k.toNat, ?_⟩
      simp only [Nat.mul_one, Nat.add_zero] at this
      rw [this]
      have e : ((UInt8.ofNat k.toNat).toNat : Int) = k := by simp; omega
      rw [e]
      rfl
    obtain ⟨f, hf⟩ := Go.Deep.choose_lt he
    rcases Nat.eq_zero_or_pos len with rfl | hp
    · exact ⟨[], some a, cap, rfl, hl, hm, fun h => absurd h (by simp)⟩
    · obtain ⟨b, o, spot⟩ := a
      have hspot : spot = none := by
        have := hf 0 hp
        exact World.cell?_spot (w := W) (a := ⟨b, o, spot⟩) (by simpa [Addr.add] using this)
      subst hspot
      refine ⟨(List.range len).map f, some ⟨b, o, none⟩, cap, by simp, by simpa using hl, hm, fun _ => ⟨b, o, rfl, ?_, fun i u hu => ?_⟩⟩
      · have := hf 0 hp
        rw [add_plain] at this
        exact World.block_lt_of_cell? W ⟨b, o + 0, none⟩ this
      · have hlt : i < len := by
          by_cases h : i < len
          · exact h
          · rw [List.getElem?_eq_none (by simp [U]; omega)] at hu; cases hu
        have := hf i hlt
        rw [add_plain] at this
        rw [this, ← hu]
        simp [U, hlt]
end
end Go.Proofs.Ytomiacedailmaaa
