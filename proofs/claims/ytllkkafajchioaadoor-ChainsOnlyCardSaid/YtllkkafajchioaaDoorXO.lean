/- Digest: the outer step of the statements: the arguments as bytes, the numbers K, and back. -/
import Derived.Test.YtllkkafajchioaaDoorXW
import Derived.Test.YtllkkafajchioaaDoorTie
import Derived.Test.YtllkkafajchioaaDoorCards
import Derived.ProofKit
import Derived.OpenShut
import Derived.JoinedCond
import Derived.Deep.Slices
import Derived.Deep.Fields
import Derived.LaidMore
import Derived.Stop.Joined
import Derived.SevenTiedAt
import Derived.ChangeMaps5
namespace Go.Proofs.YtllkkafajchioaaDoor
open Go.ChangeShapes Go.WideShapes Go.ChangeAt Go.WideElems Go.RowKit

theorem prog_own : ownKnob Tryd.prog.godebug = none := by kernel_rfl
theorem prog_laid : laidOutB Tryd.prog = true := by kernel_rfl
theorem cells_u8 : Tryd.prog.cellsOf 5 = 1 := by kernel_rfl
theorem p_bytes : Tryd.prog.readableRec 41 = true ∧ 41 < Tryd.prog.types.size := ⟨by kernel_rfl, of_decide_eq_true (by kernel_rfl)⟩
theorem p_byte : Tryd.prog.readableRec 5 = true ∧ 5 < Tryd.prog.types.size := ⟨by kernel_rfl, of_decide_eq_true (by kernel_rfl)⟩
theorem p_string : Tryd.prog.readableRec 9 = true ∧ 9 < Tryd.prog.types.size := ⟨by kernel_rfl, of_decide_eq_true (by kernel_rfl)⟩
theorem p_int : Tryd.prog.readableRec 3 = true ∧ 3 < Tryd.prog.types.size := ⟨by kernel_rfl, of_decide_eq_true (by kernel_rfl)⟩
theorem p_digest : Tryd.prog.readableRec 23 = true ∧ 23 < Tryd.prog.types.size := ⟨by kernel_rfl, of_decide_eq_true (by kernel_rfl)⟩

section
variable {H : Type} {enc : TypeId × Value → H}

theorem open_bytes {W : World} {cs : List Value} {x : DataW H × List MemPlace} {fuel : Nat} (h : DataW.trod enc Tryd.prog W 0 (fun _ => true) true fuel 41 cs = some x) :
    ∃ (l : List UInt8) (A : Option Addr) (cap : Nat), cs = [.slice A l.length cap] ∧ Byt W (· < W.heap.size) l A cap := by
  rcases DataW.trod_slice Tryd.underlying41 h with ⟨rfl, _⟩ | ⟨a, len, cap, elems, rest, n', hn, rfl, _, _, hl, hm, hel, hi, _⟩
  · exact ⟨[], none, 0, rfl, Nat.le_refl _, Nat.zero_le _, fun _ => rfl, fun h => absurd h (by simp)⟩
  · rw [cells_u8] at hi
    have he : ∀ i, i < len → ∃ c : UInt8, W.cell? (a.add i) = some (.int .u8 c.toNat) := fun i hlt => by
      have h1 := hi i hlt
      rw [List.getElem?_eq_getElem (by omega)] at h1
      obtain ⟨cs, hc, ht⟩ := Option.bind_eq_some_iff.1 h1
      obtain ⟨k, rfl, _, wk⟩ := DataW.trod_int Tryd.underlying5 ht
      have bk := bounds_u8 wk
      have := (World.cells?_some hc).2.2 0 (by omega)
      rw [Go.Deep.add_add] at this
      refine ⟨UInt8.ofNat k.toNat, ?_⟩
      simp only [Nat.mul_one, Nat.add_zero] at this
      rw [this]
      have e : ((UInt8.ofNat k.toNat).toNat : Int) = k := by simp; omega
      rw [e]
      rfl
    obtain ⟨f, hf⟩ := Go.Deep.choose_lt he
    rcases Nat.eq_zero_or_pos len with rfl | hp
    · exact ⟨[], some a, cap, rfl, hl, hm, (fun e => by cases e), fun h => absurd h (by simp)⟩
    · obtain ⟨b, o, spot⟩ := a
      have hspot : spot = none := by
        have := hf 0 hp
        exact World.cell?_spot (w := W) (a := ⟨b, o, spot⟩) (by simpa [Addr.add] using this)
      subst hspot
      refine ⟨(List.range len).map f, some ⟨b, o, none⟩, cap, by simp, by simpa using hl, hm, (fun e => by cases e), fun _ => ⟨b, o, rfl, ?_, fun i u hu => ?_⟩⟩
      · have := hf 0 hp
        rw [add_plain] at this
        exact World.block_lt_of_cell? W ⟨b, o + 0, none⟩ this
      · have hlt : i < len := by
          by_cases h : i < len
          · exact h
          · rw [List.getElem?_eq_none (by simp [U]; omega)] at hu; cases hu
        have := hf i hlt
        rw [add_plain] at this
        rw [this, ← hu]
        simp [U, hlt]
theorem arg_bytes {W : World} {r : Reach} {b0 : Nat} {v : Value} {d : DataW H} {ps : List MemPlace} (hval : Value.okWide Tryd.prog W r b0 41 v) (hd : DataW.Trod enc Tryd.prog W 0 (fun _ => true) true 41 v d ps) :
    ∃ (l : List UInt8) (A : Option Addr) (cap : Nat), v = .slice A l.length cap ∧ Byt W (· < W.heap.size) l A cap := by
  obtain ⟨a, n, c, rfl⟩ := okWide_slice Tryd.underlying41 hval
  obtain ⟨fuel, hf⟩ := hd
  obtain ⟨l, A, cap, e, hr⟩ := open_bytes hf
  have e : [Value.slice a n c] = [Value.slice A l.length cap] := e
  injection e with e _
  exact ⟨l, A, cap, e, hr⟩
theorem trodAll_behind {W W' : World} (hb : Below W.heap.size W W') : ∀ (ts : List TypeId) (vs : List Value) (ds : List (DataW H)) (ps : List MemPlace), (∀ t ∈ ts, Tryd.prog.readableRec t = true ∧ t < Tryd.prog.types.size) →
    DataW.TrodAll enc Tryd.prog W 0 (fun _ => true) true ts vs ds ps → DataW.TrodAll enc Tryd.prog W' 0 (fun b => decide (b < W.heap.size)) true ts vs ds ps
  | [], [], [], _, _, h => h
  | t :: ts, v :: vs, d :: ds, _, ht, ⟨p, q, h1, h2, e⟩ =>
    ⟨p, q, Below.trod prog_laid (ht t (List.mem_cons_self ..)).1 (ht t (List.mem_cons_self ..)).2 h1 hb (by obtain ⟨n, hn⟩ := h1; exact (DataW.TrodAll.lt (ts := [t]) (vs := [v]) (ds := [d]) ⟨p, [], ⟨n, hn⟩, rfl, by simp⟩)),
      trodAll_behind hb ts vs ds q (fun t h => ht t (List.mem_cons_of_mem _ h)) h2, e⟩

/-- the law's last step: it answered true, and of what was there nothing has turned -/
theorem law_post {f : Func} {s : ChangeSpec} {W W' : World} {args : Array Value} {ds gs : List (DataW H)} {before : List MemPlace} (hv : s.vars = [])
    (hs : ∀ ds : List (DataW H), ds.length = f.params.size → s.fn H ds = { results := [.lit (.bool true)], args := ds }) (hrt : f.resultTypes = #[4]) (hp : ∀ t ∈ f.params.toList, Tryd.prog.readableRec t = true ∧ t < Tryd.prog.types.size) (hl : ds.length = f.params.size)
    (hW : DataW.Whole enc Tryd.prog f.params.toList s.vars false W args.toList ds gs before) (hb : Below W.heap.size W W') :
    s.post enc Tryd.prog f false true false false W args (.bool true) W' := by
  have hW' := hW
  obtain ⟨p, q, hA, hV, rfl, hz, hn⟩ := hW
  rw [hv] at hV
  obtain ⟨rfl, rfl⟩ := trodVars_none hV
  have hfn := hs (ds ++ []) (by simpa using hl)
  refine ⟨ds, [], p ++ [], [], p, [], hW', ?_, ?_, ?_, hb.frame _, fun h => by cases h⟩
  · rw [hrt, hfn]
    exact trodAll_mk1 (shut_bool Tryd.underlying4 true)
  · rw [hfn, List.append_nil]
    exact trodAll_behind hb _ _ _ _ hp hA
  · rw [hv, hfn]
    rfl
end


def kname : String := Rows.chainsSignedRow.named.headD ""
theorem gK : Tryd.prog.globalNamed kname = some 0 := by kernel_rfl
theorem tK : (Tryd.prog.globals[0]?).map (·.type) = some 75 := by kernel_rfl

abbrev lay : List (String × DataW Unit) := [(kname, Rows.laid_testamur_digest_constants)]
theorem lay_list : (Rows.laid_testamur_digest_constants : DataW Unit) = .agg (Kt.map fun x => .lit (.int .u32 (I x))) := by kernel_rfl

theorem of_laid {W : World} (h : laidMetH Tryd.prog lay W) : KR W Kt := by
  rw [MakeChecks.laidMetH_plain _ _ _ (by kernel_rfl)] at h
  obtain ⟨ps, ⟨g0, t0, cs0, f0, p0, q0, hg0, ht0, hv0, hd0, ⟨_, _⟩, _⟩, _, _⟩ := h
  obtain rfl := Option.some.inj (gK.symm.trans hg0)
  obtain rfl := Option.some.inj (tK.symm.trans ht0)
  obtain ⟨xs, m1, rfl, hx1, hlen, hn, hel⟩ := DataW.trod_array Tryd.underlying75 hd0
  rw [lay_list] at hx1
  simp only [Prod.mk.injEq, DataW.agg.injEq] at hx1
  have c3 : Tryd.prog.cellsOf 64 = 1 := by kernel_rfl
  have hc := World.var?_cell hg0 hv0
  have hcell : ∀ i x, Kt[i]? = some x → W.cell? ⟨0, i, none⟩ = some (.int .u32 (I x)) := fun i x hx => by
    have hi : i < 64 := by
      have := (List.getElem?_eq_some_iff.1 hx).1
      rwa [Kt_len] at this
    have he := hel i hi
    obtain ⟨y, hy⟩ : ∃ y, xs[i]? = some y := ⟨_, List.getElem?_eq_getElem (by omega)⟩
    rw [hy, c3] at he
    obtain ⟨k, e1, e2, _⟩ := DataW.trod_int Tryd.underlying64 he
    have h1 : (Kt.map fun x => (DataW.lit (.int .u32 (I x)) : DataW Unit))[i]? = some (.lit (.int .u32 (I x))) := by simp [hx]
    rw [hx1.1] at h1
    have h2 : (xs.map Prod.fst)[i]? = some y.1 := by simp [hy]
    have h3 := h2.symm.trans h1
    injection h3 with h3
    rw [e2] at h3
    injection h3 with h3
    injection h3 with _ h3
    subst h3
    rw [hc, ← Array.getElem?_toList]
    rw [Nat.mul_one] at e1
    have := congrArg (fun l => l[0]?) e1
    simpa using this
  refine ⟨?_, hcell⟩
  obtain ⟨x, hx⟩ : ∃ x, Kt[0]? = some x := ⟨_, List.getElem?_eq_getElem (by rw [Kt_len]; omega)⟩
  exact World.block_lt_of_cell? W ⟨0, 0, none⟩ (hcell 0 x hx)

/-- the door's own heap meets the condition -/
theorem door_met (os : Os) (args : Array Value) : laidMetH Tryd.prog lay ((World.doorLaid Tryd.prog 14 os).forCall (fun _ _ => 0) ⟨#[], args, []⟩).memory :=
  laidMetH_of_parts3 (fuel := 8) (laidMet_of_run' 8 (by kernel_rfl) (by kernel_rfl)) (by kernel_rfl) (by kernel_rfl)
end Go.Proofs.YtllkkafajchioaaDoor
