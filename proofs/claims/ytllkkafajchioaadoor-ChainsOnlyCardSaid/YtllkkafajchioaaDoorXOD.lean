/- Chains: an argument that is a slice of digests. -/
import Derived.Test.YtllkkafajchioaaDoorJK
namespace Go.Proofs.YtllkkafajchioaaDoor
open Go.ChangeShapes Go.WideShapes Go.ChangeAt Go.WideElems Go.RowKit

theorem cells_dig : Tryd.prog.cellsOf 23 = 32 := by kernel_rfl
theorem p_digests : Tryd.prog.readableRec 24 = true ∧ 24 < Tryd.prog.types.size := ⟨by kernel_rfl, of_decide_eq_true (by kernel_rfl)⟩
section
variable {H : Type} {enc : TypeId × Value → H}
/-- 32 cells that can be read as a digest -/
theorem open_cells {W : World} {cs : List Value} {x : DataW H × List MemPlace} {fuel : Nat} (h : DataW.trod enc Tryd.prog W 0 (fun _ => true) true fuel 23 cs = some x) : ∃ l : List UInt8, l.length = 32 ∧ cs = U l := by
  have AK : WideMaps.ArrKey Tryd.prog 23 5 32 := ⟨Tryd.underlying23, by kernel_rfl, by kernel_rfl, by kernel_rfl⟩
  cases fuel with
  | zero => simp [DataW.trod] at h
  | succ m =>
    rw [DataW.trod_step] at h
    unfold DataW.trodStep at h
    simp only [AK.hu] at h
    by_cases hn : cs.length = 32
    · rw [if_pos (by rw [AK.size]; simpa using hn)] at h
      simp only [Option.map_eq_some_iff] at h
      obtain ⟨ys, hy, _⟩ := h
      rw [AK.one] at hy
      obtain ⟨l, hl⟩ := as_bytes cs fun v hv => by
        obtain ⟨i, hi, e⟩ := List.getElem_of_mem hv
        obtain ⟨y, hyi⟩ := mapM_all _ _ _ hy i (List.mem_range.2 (by omega))
        obtain ⟨a, ea, _, wa⟩ := DataW.trod_int Tryd.underlying5 hyi
        have ba := bounds_u8 wa
        have h1 : ((cs.drop (i * 1)).take 1) = [v] := by
          rw [Nat.mul_one, List.drop_eq_getElem_cons hi, e]
          rfl
        rw [h1] at ea
        injection ea with ea _
        refine ⟨UInt8.ofNat a.toNat, ?_⟩
        have e2 : ((UInt8.ofNat a.toNat).toNat : Int) = a := by simp; omega
        rw [e2, ea]
      exact ⟨l, by rw [← hn, hl, U_length], hl⟩
    · rw [if_neg (by rw [AK.size]; simpa using hn)] at h
      cases h
theorem open_digests {W : World} {cs : List Value} {x : DataW H × List MemPlace} {fuel : Nat} (h : DataW.trod enc Tryd.prog W 0 (fun _ => true) true fuel 24 cs = some x) :
    ∃ (L : List (List UInt8)) (A : Option Addr) (cap : Nat), cs = [.slice A L.length cap] ∧ DL W (· < W.heap.size) L A cap := by
  rcases DataW.trod_slice Tryd.underlying24 h with ⟨rfl, _⟩ | ⟨a, len, cap, elems, rest, n', hn, rfl, _, _, hl, hm, hel, hi, _⟩
  · exact ⟨[], none, 0, rfl, Nat.le_refl _, Nat.zero_le _, (fun _ => rfl), (fun d hd => by cases hd), fun h => absurd h (by simp)⟩
  · rw [cells_dig] at hi
    have he : ∀ i, i < len → ∃ d : List UInt8, d.length = 32 ∧ ∀ j u, (U d)[j]? = some u → W.cell? (a.add (i * 32 + j)) = some u := fun i hlt => by
      have h1 := hi i hlt
      rw [List.getElem?_eq_getElem (by omega)] at h1
      obtain ⟨cs, hc, ht⟩ := Option.bind_eq_some_iff.1 h1
      obtain ⟨d, hd, rfl⟩ := open_cells ht
      refine ⟨d, hd, fun j u hu => ?_⟩
      have hj : j < (U d).length := (List.getElem?_eq_some_iff.1 hu).1
      have := (World.cells?_some hc).2.2 j (by rw [U_length, hd] at hj; exact hj)
      rw [Go.Deep.add_add] at this
      rw [this, hu]
    obtain ⟨f, hf⟩ := Go.Deep.choose_lt he
    rcases Nat.eq_zero_or_pos len with rfl | hp
    · exact ⟨[], some a, cap, rfl, hl, hm, (fun e => by cases e), (fun d hd => by cases hd), fun h => absurd h (by simp)⟩
    · obtain ⟨b, o, spot⟩ := a
      obtain ⟨h0, hc0⟩ := hf 0 hp
      obtain ⟨u0, hu0⟩ : ∃ u, (U (f 0))[0]? = some u := ⟨_, List.getElem?_eq_getElem (by rw [U_length, h0]; omega)⟩
      have hspot : spot = none := by
        have := hc0 0 u0 hu0
        exact World.cell?_spot (w := W) (a := ⟨b, o, spot⟩) (by simpa [Addr.add] using this)
      subst hspot
      refine ⟨(List.range len).map f, some ⟨b, o, none⟩, cap, by simp, by simpa using hl, hm, (fun e => by cases e), ?_, fun _ => ⟨b, o, rfl, ?_, fun i d hd j u hu => ?_⟩⟩
      · intro d hd
        obtain ⟨i, hi, rfl⟩ := List.mem_map.1 hd
        exact (hf i (List.mem_range.1 hi)).1
      · have := hc0 0 u0 hu0
        rw [add_plain] at this
        exact World.block_lt_of_cell? W _ this
      · have hlt : i < len := by
          have := (List.getElem?_eq_some_iff.1 hd).1
          simpa using this
        have e : f i = d := by simpa [hlt] using hd
        have := (hf i hlt).2 j u (by rw [e]; exact hu)
        rw [add_plain] at this
        rwa [Nat.add_assoc]
theorem arg_digests {W : World} {r : Reach} {b0 : Nat} {v : Value} {d : DataW H} {ps : List MemPlace} (hval : Value.okWide Tryd.prog W r b0 24 v) (hd : DataW.Trod enc Tryd.prog W 0 (fun _ => true) true 24 v d ps) :
    ∃ (L : List (List UInt8)) (A : Option Addr) (cap : Nat), v = .slice A L.length cap ∧ DL W (· < W.heap.size) L A cap := by
  obtain ⟨a, n, c, rfl⟩ := okWide_slice Tryd.underlying24 hval
  obtain ⟨fuel, hf⟩ := hd
  obtain ⟨L, A, cap, e, hr⟩ := open_digests hf
  have e : [Value.slice a n c] = [Value.slice A L.length cap] := e
  injection e with e _
  exact ⟨L, A, cap, e, hr⟩
end
end Go.Proofs.YtllkkafajchioaaDoor
