/- Chains: the reference: Same, SameInts. -/
import Derived.Test.YtllkkafajchioaaDoorXR
import Derived.Deep.QuietTactic
namespace Go.Proofs.YtllkkafajchioaaDoor
open Go.RowKit

theorem ev_neq_no {o : Oper} {a : Act} {w : World} (x y : Operand) (l m : List UInt8) (hl : l.length = 32) (hm : m.length = 32) (hne : l ≠ m) (ho : o.op = .binOp .neq 23 x y 23) (hx : a.eval x = .agg (U l).toArray) (hy : a.eval y = .agg (U m).toArray) :
    (execOp a.eval o).run Tryd.prog w = .ok (.value (.bool true)) w := by
  have q1 := eq_dig l m hl hm
  rw [decide_eq_false hne] at q1
  unfold execOp
  simp only [ho, hx, hy]
  go_simp
theorem take_eq_step {α : Type} (P Q : List α) (k : Nat) (x : α) (h : P.take k = Q.take k) (hp : P[k]? = some x) (hq : Q[k]? = some x) : P.take (k + 1) = Q.take (k + 1) := by
  rw [take_one P k x hp, take_one Q k x hq, h]

set_option maxRecDepth 100000 in
set_option maxHeartbeats 3200000 in
theorem rSame_all (P Q : List (List UInt8)) (A : Option Addr) (c : Nat) (B : Option Addr) (d : Nat) (w : World) (hp : DL w (· < w.heap.size) P A c) (hq : DL w (· < w.heap.size) Q B d) (hn : P.length ≤ 1000) (_hn2 : Q.length ≤ 1000) :
    Calls Tryd.prog 20 #[.slice A P.length c, .slice B Q.length d] w fun e w' => e = .returned (.bool (decide (P = Q))) ∧ Below w.heap.size w w' := by
  by_cases hne : P.length = Q.length
  · have HP := Lib.hid hp
    have HQ := Lib.hid hq
    have hc1 := hp.1
    have hc2 := hq.1
    have HLQ := Lib.hid hne
    rw [← hne] at hc2 ⊢
    clear hp hq hne _hn2
    go_enter Tryd.func20, Tryd.ntmps20
    go_wp2_with fail
    go_loopw [5] (fun x wr => ∃ k : Nat, k ≤ P.length ∧ x = .int .i64 k ∧ Hid (P.take k = Q.take k) ∧ Below w.heap.size w wr) (fun x _ => P.length - (intOf x).toNat)
    case atStart => exact ⟨0, Nat.zero_le _, rfl, Lib.hid rfl, Below.refl _ _⟩
    case round =>
      obtain ⟨k, hk, rfl, HT, hb⟩ := hrel
      have HB := Lib.hid hb
      have hz := hb.size
      clear hb
      by_cases hlt : k < P.length
      · obtain ⟨b1, o1, rfl, hS1, hr1⟩ := HP.out.2.2.2.2 (by omega)
        obtain ⟨b2, o2, rfl, hS2, hr2⟩ := HQ.out.2.2.2.2 (by rw [← HLQ.out]; omega)
        obtain ⟨x, hx⟩ : ∃ x, P[k]? = some x := ⟨_, List.getElem?_eq_getElem hlt⟩
        obtain ⟨y, hy⟩ : ∃ y, Q[k]? = some y := ⟨_, List.getElem?_eq_getElem (by rw [← HLQ.out]; exact hlt)⟩
        have R1 := Lib.hid (show ∀ ww, Below w.heap.size w ww → ww.rangeAt b1 (o1 + k * 32) (U x) from fun ww h j u hu => (World.cell?_of_block (h.block b1 hS1)).trans (hr1 k x hx j u hu))
        have R2 := Lib.hid (show ∀ ww, Below w.heap.size w ww → ww.rangeAt b2 (o2 + k * 32) (U y) from fun ww h j u hu => (World.cell?_of_block (h.block b2 hS2)).trans (hr2 k y hy j u hu))
        have HX := Lib.hid (HP.out.2.2.2.1 x (List.mem_of_getElem? hx))
        have HY := Lib.hid (HQ.out.2.2.2.1 y (List.mem_of_getElem? hy))
        have HXX := Lib.hid hx
        have HYY := Lib.hid hy
        clear hr1 hr2 hx hy
        go_wp2_with fail
        refine wp_region_noPanic ?_
        have h0 := HB.out.drew
        refine wp_region_held_drew (S := fun ww => Below w.heap.size w ww) (by kernel_rfl) h0 (fun _ => ?_)
        refine tk_move 0 17 (.tmp 0) (.slice (some ⟨b1, o1, none⟩) P.length c) rfl (by kernel_rfl) (by kernel_rfl) (by kernel_rfl) (fun _ _ _ _ h => h) rfl rfl rfl rfl h0 ?_
        simp only [Act.put, List.setIfInBounds_toArray, List.set_cons_zero, List.set_cons_succ]
        refine tk_move 1 18 (.tmp 5) (.int .i64 k) rfl (by kernel_rfl) (by kernel_rfl) (by kernel_rfl) (fun _ _ _ _ h => h) rfl rfl rfl rfl h0 ?_
        simp only [Act.put, List.setIfInBounds_toArray, List.set_cons_zero, List.set_cons_succ]
        refine tk_val 2 19 (.pointer (some ⟨b1, o1 + k * 32, none⟩)) rfl (by kernel_rfl) (by kernel_rfl) (by kernel_rfl) (fun _ _ _ _ h => h) rfl rfl (fun w _ => ev_index (.tmp 17) (.tmp 18) b1 o1 P.length c k rfl rfl rfl hlt) h0 ?_
        simp only [Act.put, List.setIfInBounds_toArray, List.set_cons_zero, List.set_cons_succ]
        refine tk_load 3 20 (.tmp 19) b1 (o1 + k * 32) x rfl (by kernel_rfl) (by kernel_rfl) (by kernel_rfl) (fun _ _ _ _ h => h) rfl rfl rfl rfl (fun w h => R1.out w h) HX.out h0 ?_
        simp only [Act.put, List.setIfInBounds_toArray, List.set_cons_zero, List.set_cons_succ]
        refine tk_move 4 21 (.tmp 1) (.slice (some ⟨b2, o2, none⟩) P.length d) rfl (by kernel_rfl) (by kernel_rfl) (by kernel_rfl) (fun _ _ _ _ h => h) rfl rfl rfl rfl h0 ?_
        simp only [Act.put, List.setIfInBounds_toArray, List.set_cons_zero, List.set_cons_succ]
        refine tk_move 5 22 (.tmp 5) (.int .i64 k) rfl (by kernel_rfl) (by kernel_rfl) (by kernel_rfl) (fun _ _ _ _ h => h) rfl rfl rfl rfl h0 ?_
        simp only [Act.put, List.setIfInBounds_toArray, List.set_cons_zero, List.set_cons_succ]
        refine tk_val 6 23 (.pointer (some ⟨b2, o2 + k * 32, none⟩)) rfl (by kernel_rfl) (by kernel_rfl) (by kernel_rfl) (fun _ _ _ _ h => h) rfl rfl (fun w _ => ev_index (.tmp 21) (.tmp 22) b2 o2 P.length d k rfl rfl rfl hlt) h0 ?_
        simp only [Act.put, List.setIfInBounds_toArray, List.set_cons_zero, List.set_cons_succ]
        refine tk_load 7 24 (.tmp 23) b2 (o2 + k * 32) y rfl (by kernel_rfl) (by kernel_rfl) (by kernel_rfl) (fun _ _ _ _ h => h) rfl rfl rfl rfl (fun w h => R2.out w h) HY.out h0 ?_
        simp only [Act.put, List.setIfInBounds_toArray, List.set_cons_zero, List.set_cons_succ]
        have HXY := Lib.hid (fun (h : x = y) => h)
        by_cases hxy : x = y
        · subst hxy
          refine tk_val 8 25 (.bool false) rfl (by kernel_rfl) (by kernel_rfl) (by kernel_rfl) (fun _ _ _ _ h => h) rfl rfl (fun w _ => ev_neq (.tmp 20) (.tmp 24) x HX.out rfl rfl rfl) h0 ?_
          simp only [Act.put, List.setIfInBounds_toArray, List.set_cons_zero, List.set_cons_succ]
          refine wpAnyH_done (by kernel_rfl) (NoPanic.normal ?_) _
          have H0 := Lib.hid h0
          clear h0
          go_wp2_with fail
          go_roundw
          case rel => exact ⟨k + 1, by omega, by go_num, Lib.hid (take_eq_step P Q k x HT.out HXX.out HYY.out), H0.out⟩
          case measure => simp [intOf]; omega
        · have HNE := Lib.hid (show decide (P = Q) = false from decide_eq_false fun e => hxy (by have h1 := HXX.out; rw [e, HYY.out] at h1; injection h1 with h1; exact h1.symm))
          refine tk_val 8 25 (.bool true) rfl (by kernel_rfl) (by kernel_rfl) (by kernel_rfl) (fun _ _ _ _ h => h) rfl rfl (fun w _ => ev_neq_no (.tmp 20) (.tmp 24) x y HX.out HY.out hxy rfl rfl rfl) h0 ?_
          simp only [Act.put, List.setIfInBounds_toArray, List.set_cons_zero, List.set_cons_succ]
          refine wpAnyH_done (by kernel_rfl) (NoPanic.normal ?_) _
          have H0 := Lib.hid h0
          clear h0 hxy
          go_wp2_with fail
          go_ret
          exact ⟨ret_bool HNE.out.symm, H0.out⟩
      · obtain rfl : k = P.length := by omega
        have HE := Lib.hid (show decide (P = Q) = true from decide_eq_true (by have h := HT.out; rwa [List.take_length, HLQ.out, List.take_length] at h))
        go_wp2_with fail
        go_ret
        exact ⟨ret_bool HE.out.symm, HB.out⟩
  · have HNE := Lib.hid (show decide (P = Q) = false from decide_eq_false fun e => hne (by rw [e]))
    have hneq : ((P.length : Int) != Q.length) = true := by
      have : ¬ ((P.length : Int) = Q.length) := by omega
      simpa using this
    have hneq2 : (P.length != Q.length) = true := by simpa using hne
    clear hp hq
    generalize P.length = a at *
    generalize Q.length = b at *
    go_enter Tryd.func20, Tryd.ntmps20
    go_wp2_with fail
    go_ret
    exact ⟨ret_bool HNE.out.symm, Below.refl _ _⟩

/-- a slice of numbers that reads as l -/
def IL (w : World) (S : Nat → Prop) (l : List Nat) (A : Option Addr) (cap : Nat) : Prop :=
  l.length ≤ cap ∧ cap ≤ maxLen ∧ (0 < l.length → ∃ b o, A = some ⟨b, o, none⟩ ∧ S b ∧ ∀ (i n : Nat), l[i]? = some n → w.cell? ⟨b, o + i, none⟩ = some (.int .i64 (n : Int)))
theorem IL.keep {w w' : World} {S S' : Nat → Prop} {l : List Nat} {A : Option Addr} {cap : Nat} (h : IL w S l A cap) (hs : ∀ i, S i → S' i ∧ w'.heap[i]? = w.heap[i]?) : IL w' S' l A cap := by
  refine ⟨h.1, h.2.1, fun hp => ?_⟩
  obtain ⟨b, o, e, hS, hc⟩ := h.2.2 hp
  exact ⟨b, o, e, (hs b hS).1, fun i n hn => (World.cell?_of_block (hs b hS).2).trans (hc i n hn)⟩
theorem RowN.il {w : World} {g : Nat} {t : TypeId} {D : List Nat} (h : RowN w g t D) (hD : D.length = 19) : IL w (· = g) D (some ⟨g, 0, none⟩) 19 :=
  ⟨by omega, by simp only [maxLen]; omega, fun _ => ⟨g, 0, rfl, rfl, fun i n hn => by rw [Nat.zero_add]; exact h.cell hn⟩⟩
theorem OwnN.il {w : World} {b n : Nat} {A : Option Addr} {c : Nat} {l : List Nat} (h : OwnN w b (.slice A n c) l) : IL w (fun i => b ≤ i ∧ i < w.heap.size) l A c := by
  have hcs : ∀ g, (Value.slice A n c).ownBlock = some g → ∀ j u, (NI l)[j]? = some u → w.cell? ((⟨g, 0, none⟩ : Addr).add j) = some u := fun g hg => World.ownsRow.cells h hg
  rcases h.2 with ⟨e, h0⟩ | ⟨g, cap, cur, e, hb, hh, h1, h2, _⟩
  · injection e with e1 _ e3
    subst e1 e3
    exact ⟨by omega, Nat.zero_le _, fun hp => by omega⟩
  · injection e with e1 _ e3
    subst e1 e3
    refine ⟨h1, h2, fun _ => ⟨g, 0, rfl, ⟨hb, (Array.getElem?_eq_some_iff.1 hh).1⟩, fun i m hm => ?_⟩⟩
    have := hcs g rfl i (.int .i64 (m : Int)) (by rw [NI_get, hm]; rfl)
    rwa [Go.WideShapes.add_plain] at this

set_option maxRecDepth 100000 in
set_option maxHeartbeats 3200000 in
theorem rSameInts_all (P Q : List Nat) (A : Option Addr) (c : Nat) (B : Option Addr) (d : Nat) (w : World) (hp : IL w (· < w.heap.size) P A c) (hq : IL w (· < w.heap.size) Q B d) (hn : P.length ≤ 1000) (_hn2 : Q.length ≤ 1000) :
    Calls Tryd.prog 13 #[.slice A P.length c, .slice B Q.length d] w fun e w' => e = .returned (.bool (decide (P = Q))) ∧ Below w.heap.size w w' := by
  by_cases hne : P.length = Q.length
  · have HP := Lib.hid hp
    have HQ := Lib.hid hq
    have hc1 := hp.1
    have hc2 := hq.1
    have HLQ := Lib.hid hne
    rw [← hne] at hc2 ⊢
    clear hp hq hne _hn2
    go_enter Tryd.func13, Tryd.ntmps13
    go_wp2_with fail
    go_loopw [5] (fun x wr => ∃ k : Nat, k ≤ P.length ∧ x = .int .i64 k ∧ Hid (P.take k = Q.take k) ∧ Below w.heap.size w wr) (fun x _ => P.length - (intOf x).toNat)
    case atStart => exact ⟨0, Nat.zero_le _, rfl, Lib.hid rfl, Below.refl _ _⟩
    case round =>
      obtain ⟨k, hk, rfl, HT, hb⟩ := hrel
      have HB := Lib.hid hb
      have hz := hb.size
      by_cases hlt : k < P.length
      · obtain ⟨b1, o1, rfl, hS1, hr1⟩ := HP.out.2.2 (by omega)
        obtain ⟨b2, o2, rfl, hS2, hr2⟩ := HQ.out.2.2 (by rw [← HLQ.out]; omega)
        obtain ⟨x, hx⟩ : ∃ x, P[k]? = some x := ⟨_, List.getElem?_eq_getElem hlt⟩
        obtain ⟨y, hy⟩ : ∃ y, Q[k]? = some y := ⟨_, List.getElem?_eq_getElem (by rw [← HLQ.out]; exact hlt)⟩
        have e1 := (World.cell?_of_block (a := ⟨b1, o1 + k, none⟩) (hb.block b1 hS1)).trans (hr1 k x hx)
        have e2 := (World.cell?_of_block (a := ⟨b2, o2 + k, none⟩) (hb.block b2 hS2)).trans (hr2 k y hy)
        have HXX := Lib.hid hx
        have HYY := Lib.hid hy
        have bk : (k : Int) < P.length := by omega
        clear hr1 hr2 hx hy hb
        by_cases hxy : x = y
        · have hq1 : ((x : Int) != y) = false := by simp [hxy]
          have HXY := Lib.hid hxy
          clear hxy
          go_wp2_with fail
          go_quiet (fail)
          go_wp2_with fail
          go_roundw
          case rel => exact ⟨k + 1, by omega, by go_num, Lib.hid (take_eq_step P Q k x HT.out HXX.out (by rw [HXY.out]; exact HYY.out)), below_drewN HB.out _⟩
          case measure => simp [intOf]; omega
        · have hq1 : ((x : Int) != y) = true := by
            have : ¬ ((x : Int) = y) := by omega
            simpa using this
          have HNE := Lib.hid (show decide (P = Q) = false from decide_eq_false fun e => hxy (by have h1 := HXX.out; rw [e, HYY.out] at h1; injection h1 with h1; exact h1.symm))
          clear hxy
          go_wp2_with fail
          go_quiet (fail)
          go_wp2_with fail
          go_ret
          exact ⟨ret_bool HNE.out.symm, below_drewN HB.out _⟩
      · obtain rfl : k = P.length := by omega
        have HE := Lib.hid (show decide (P = Q) = true from decide_eq_true (by have h := HT.out; rwa [List.take_length, HLQ.out, List.take_length] at h))
        clear hb
        go_wp2_with fail
        go_ret
        exact ⟨ret_bool HE.out.symm, HB.out⟩
  · have HNE := Lib.hid (show decide (P = Q) = false from decide_eq_false fun e => hne (by rw [e]))
    have hneq : ((P.length : Int) != Q.length) = true := by
      have : ¬ ((P.length : Int) = Q.length) := by omega
      simpa using this
    have hneq2 : (P.length != Q.length) = true := by simpa using hne
    clear hp hq
    generalize P.length = a at *
    generalize Q.length = b at *
    go_enter Tryd.func13, Tryd.ntmps13
    go_wp2_with fail
    go_ret
    exact ⟨ret_bool HNE.out.symm, Below.refl _ _⟩
end Go.Proofs.YtllkkafajchioaaDoor
