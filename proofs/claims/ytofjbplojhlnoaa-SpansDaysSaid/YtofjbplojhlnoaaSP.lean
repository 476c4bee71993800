/- Spans: equal sets; arguments. -/
import Derived.Test.YtofjbplojhlnoaaSO
import Derived.Test.YtofjbplojhlnoaaRows
import Derived.ProofKit
import Derived.OpenShut
import Derived.JoinedCond
import Derived.Deep.SlicePairs
namespace Go.Proofs.Ytofjbplojhlnoaa
open Go.ChangeShapes Go.WideShapes Go.ChangeAt Go.RowKit

theorem hit_zw (f : Bool → Bool → Bool) (a b : List Sp) (m : Nat) (h : m < 1024) : hit (rn 0 (zw f a b)) m = f (hit a m) (hit b m) := by
  have h1 := dy_get (rn 0 (zw f a b)) m (by rw [dy_len]; exact h)
  rw [← h1]
  have h2 := dy_zw f a b
  simp only [h2]
  simp [zw, dy_get]
theorem zw_ext {f g : Bool → Bool → Bool} {a b c d : List Sp} (h : ∀ m : Nat, m < 1024 → f (hit a m) (hit b m) = g (hit c m) (hit d m)) : rn 0 (zw f a b) = rn 0 (zw g c d) := by
  refine congrArg (rn 0) ?_
  apply List.ext_getElem (by rw [zw_len, zw_len])
  intro m h1 h2
  rw [zw_len] at h1
  simp only [zw, List.getElem_zipWith, dy_get]
  exact h m h1
theorem zw_nm {f : Bool → Bool → Bool} {a b c : List Sp} (h : ∀ m : Nat, m < 1024 → f (hit a m) (hit b m) = hit c m) : rn 0 (zw f a b) = nm c := by
  unfold nm
  refine congrArg (rn 0) ?_
  apply List.ext_getElem (by rw [zw_len, dy_len])
  intro m h1 h2
  rw [zw_len] at h1
  simp only [zw, List.getElem_zipWith, dy_get]
  exact h m h1
theorem rn_none : ∀ (l : List Bool) (k : Nat), (∀ b ∈ l, b = false) → rn k l = []
  | [], _, _ => rfl
  | b :: l, k, h => by
    obtain rfl := h b (List.mem_cons_self ..)
    rw [rn_false]
    exact rn_none l _ fun b hb => h b (List.mem_cons_of_mem _ hb)
theorem zw_nil {f : Bool → Bool → Bool} {a b : List Sp} (h : ∀ m : Nat, m < 1024 → f (hit a m) (hit b m) = false) : rn 0 (zw f a b) = [] := by
  apply rn_none
  intro x hx
  obtain ⟨m, hm, rfl⟩ := List.getElem_of_mem hx
  have hm' := hm
  rw [zw_len] at hm'
  simp only [zw, List.getElem_zipWith, dy_get]
  exact h m hm'
theorem zlen (f : Bool → Bool → Bool) (a b : List Sp) : (rn 0 (zw f a b)).length ≤ 1000000 := by
  have := rn_len (zw f a b) 0
  rw [zw_len] at this
  omega
theorem nlen (a : List Sp) : (nm a).length ≤ 1000000 := by have := nm_len a; omega
theorem nm_nm (a : List Sp) : nm (nm a) = nm a := by unfold nm; rw [dy_rn _ (dy_len a)]

theorem few_yes (L : List Sp) (A : Option Addr) (cap : Nat) (h : L.length ≤ 40) (w : World) : Calls Try.prog 10 #[.slice A L.length cap] w fun e w' => e = .returned (.bool true) ∧ w' = w := by
  have := few_all L A cap w
  rwa [decide_eq_true h] at this
theorem few_no (L : List Sp) (A : Option Addr) (cap : Nat) (h : ¬ L.length ≤ 40) (w : World) : Calls Try.prog 10 #[.slice A L.length cap] w fun e w' => e = .returned (.bool false) ∧ w' = w := by
  have := few_all L A cap w
  rwa [decide_eq_false h] at this

theorem prog_own : ownKnob Try.prog.godebug = none := by kernel_rfl
theorem prog_laid : laidOutB Try.prog = true := by kernel_rfl
theorem cells_sp : Try.prog.cellsOf 32 = 2 := by kernel_rfl
theorem cells_int : Try.prog.cellsOf 3 = 1 := by kernel_rfl
theorem p_spans : Try.prog.readableRec 22 = true ∧ 22 < Try.prog.types.size := ⟨by kernel_rfl, of_decide_eq_true (by kernel_rfl)⟩
theorem p_int : Try.prog.readableRec 3 = true ∧ 3 < Try.prog.types.size := ⟨by kernel_rfl, of_decide_eq_true (by kernel_rfl)⟩
theorem p_u16 : Try.prog.readableRec 37 = true ∧ 37 < Try.prog.types.size := ⟨by kernel_rfl, of_decide_eq_true (by kernel_rfl)⟩

section
variable {H : Type} {enc : TypeId × Value → H}
theorem arg_spans {W : World} {r : Reach} {b0 : Nat} {v : Value} {d : DataW H} {ps : List MemPlace} (hval : Value.okWide Try.prog W r b0 22 v) (hd : DataW.Trod enc Try.prog W 0 (fun _ => true) true 22 v d ps) :
    ∃ (L : List Sp) (A : Option Addr) (cap : Nat), v = .slice A L.length cap ∧ SL W (· < W.heap.size) L A cap := by
  obtain ⟨a, n, c, rfl⟩ := okWide_slice Try.underlying22 hval
  obtain ⟨fuel, hf⟩ := hd
  rcases Go.Deep.open_slice_pairs Try.underlying22 Try.underlying32 cells_sp rfl rfl cells_int cells_int hf with ⟨e, _⟩ | ⟨a', len, cap, m, n', V0, V1, D0, D1, P0, P1, e, _, hl, hm, hmm, _, hi⟩
  · have e : [Value.slice a n c] = [Value.slice none 0 0] := e
    injection e with e _
    exact ⟨[], none, 0, e, sl_nil _ _⟩
  · have e : [Value.slice a n c] = [Value.slice (some a') len cap] := e
    injection e with e _
    have hlm : len ≤ m := by rw [hmm]; split <;> omega
    have hcell : ∀ i, i < len → ∃ p : Sp, W.cell? (a'.add (i * 2)) = some (.int .i64 p.1) ∧ W.cell? (a'.add (i * 2 + 1)) = some (.int .i64 p.2) := fun i hlt => by
      obtain ⟨c0, c1, t0, t1⟩ := hi i (by omega)
      obtain ⟨x, e0, _, _⟩ := DataW.trod_int Try.underlying3 t0
      obtain ⟨y, e1, _, _⟩ := DataW.trod_int Try.underlying3 t1
      injection e0 with e0 _
      injection e1 with e1 _
      exact ⟨(x, y), by rw [c0, e0], by rw [c1, e1]⟩
    obtain ⟨f, hf⟩ := Go.Deep.choose_lt hcell
    rcases Nat.eq_zero_or_pos len with rfl | hp
    · exact ⟨[], some a', cap, e, hl, hm, (fun e => by cases e), fun h => absurd h (by simp)⟩
    · obtain ⟨b, o, spot⟩ := a'
      have hspot : spot = none := by
        have := (hf 0 hp).1
        exact World.cell?_spot (w := W) (a := ⟨b, o, spot⟩) (by simpa [Addr.add] using this)
      subst hspot
      refine ⟨(List.range len).map f, some ⟨b, o, none⟩, cap, by simpa using e, by simpa using hl, hm, (fun e => by cases e), fun _ => ⟨b, o, rfl, ?_, fun i p hp' => ?_⟩⟩
      · have := (hf 0 hp).1
        rw [add_plain] at this
        exact World.block_lt_of_cell? W ⟨b, o + 0 * 2, none⟩ this
      · have hlt : i < len := by
          have := (List.getElem?_eq_some_iff.1 hp').1
          simpa using this
        have hfi : f i = p := by
          rw [List.getElem?_map, List.getElem?_range hlt] at hp'
          simpa using hp'
        have := hf i hlt
        rw [add_plain, add_plain, hfi] at this
        rw [Nat.add_assoc]
        exact this
theorem trodAll_behind {W W' : World} (hb : Below W.heap.size W W') : ∀ (ts : List TypeId) (vs : List Value) (ds : List (DataW H)) (ps : List MemPlace), (∀ t ∈ ts, Try.prog.readableRec t = true ∧ t < Try.prog.types.size) →
    DataW.TrodAll enc Try.prog W 0 (fun _ => true) true ts vs ds ps → DataW.TrodAll enc Try.prog W' 0 (fun b => decide (b < W.heap.size)) true ts vs ds ps
  | [], [], [], _, _, h => h
  | t :: ts, v :: vs, d :: ds, _, ht, ⟨p, q, h1, h2, e⟩ =>
    ⟨p, q, Below.trod prog_laid (ht t (List.mem_cons_self ..)).1 (ht t (List.mem_cons_self ..)).2 h1 hb (by obtain ⟨n, hn⟩ := h1; exact (DataW.TrodAll.lt (ts := [t]) (vs := [v]) (ds := [d]) ⟨p, [], ⟨n, hn⟩, rfl, by simp⟩)),
      trodAll_behind hb ts vs ds q (fun t h => ht t (List.mem_cons_of_mem _ h)) h2, e⟩
/-- the law's last step: it answered true, and of what was there nothing has turned -/
theorem law_post {f : Func} {s : ChangeSpec} {W W' : World} {args : Array Value} {ds gs : List (DataW H)} {before : List MemPlace} (hv : s.vars = [])
    (hs : ∀ ds : List (DataW H), ds.length = f.params.size → s.fn H ds = { results := [.lit (.bool true)], args := ds }) (hrt : f.resultTypes = #[4]) (hp : ∀ t ∈ f.params.toList, Try.prog.readableRec t = true ∧ t < Try.prog.types.size) (hl : ds.length = f.params.size)
    (hW : DataW.Whole enc Try.prog f.params.toList s.vars false W args.toList ds gs before) (hb : Below W.heap.size W W') :
    s.post enc Try.prog f false true false false W args (.bool true) W' := by
  have hW' := hW
  obtain ⟨p, q, hA, hV, rfl, hz, hn⟩ := hW
  rw [hv] at hV
  obtain ⟨rfl, rfl⟩ := trodVars_none hV
  have hfn := hs (ds ++ []) (by simpa using hl)
  refine ⟨ds, [], p ++ [], [], p, [], hW', ?_, ?_, ?_, hb.frame _, fun h => by cases h⟩
  · rw [hrt, hfn]
    exact trodAll_mk1 (shut_bool Try.underlying4 true)
  · rw [hfn, List.append_nil]
    exact trodAll_behind hb _ _ _ _ hp hA
  · rw [hv, hfn]
    rfl
end
end Go.Proofs.Ytofjbplojhlnoaa
