/- Spans: Normal; two sets combined. -/
import Derived.Test.YtofjbplojhlnoaaSF
import Derived.StillTailTactics
namespace Go.Proofs.Ytofjbplojhlnoaa
open Go.RowKit

theorem c2_len (L : List Sp) : (L.flatMap C2).length = L.length * 2 := by
  induction L with
  | nil => rfl
  | cons p L ih => rw [List.flatMap_cons, List.length_append, ih, List.length_cons]; simp [C2]; omega
theorem c2_at : ∀ (L : List Sp) (i : Nat) (p : Sp), L[i]? = some p → (L.flatMap C2)[i * 2]? = some (.int .i64 p.1) ∧ (L.flatMap C2)[i * 2 + 1]? = some (.int .i64 p.2)
  | [], i, p, h => by simp at h
  | q :: L, 0, p, h => by
    simp at h
    subst h
    exact ⟨rfl, rfl⟩
  | q :: L, i + 1, p, h => by
    have ih := c2_at L i p (by simpa using h)
    rw [List.flatMap_cons, show C2 q = [.int .i64 q.1, .int .i64 q.2] from rfl, show (i + 1) * 2 = i * 2 + 2 by omega]
    exact ih
/-- a slice of spans that the call made -/
def OwnS (w : World) (base : Nat) (v : Value) (L : List Sp) : Prop := w.ownsRow base 32 2 v L.length (L.flatMap C2)
theorem OwnS.sl {w : World} {b : Nat} {v : Value} {L : List Sp} (h : OwnS w b v L) : ∃ A cap, v = .slice A L.length cap ∧ SL w (fun i => b ≤ i ∧ i < w.heap.size) L A cap := by
  have hcs : ∀ g, v.ownBlock = some g → ∀ j u, (L.flatMap C2)[j]? = some u → w.cell? ((⟨g, 0, none⟩ : Addr).add j) = some u := fun g hg => World.ownsRow.cells h hg
  rcases h.2 with ⟨rfl, h0⟩ | ⟨g, cap, cur, rfl, hb, hh, h1, h2, _⟩
  · refine ⟨none, 0, by rw [h0], by omega, Nat.zero_le _, fun _ => rfl, fun hp => by omega⟩
  · refine ⟨some ⟨g, 0, none⟩, cap, rfl, h1, h2, (fun e => by cases e), fun _ => ⟨g, 0, rfl, ⟨hb, (Array.getElem?_eq_some_iff.1 hh).1⟩, fun i p hp => ?_⟩⟩
    obtain ⟨q1, q2⟩ := c2_at L i p hp
    have e1 := hcs g rfl _ _ q1
    have e2 := hcs g rfl _ _ q2
    rw [Go.WideShapes.add_plain] at e1 e2
    simp only [Nat.zero_add] at e1 e2 ⊢
    exact ⟨e1, e2⟩

/-- the runs of a block of days, collected -/
def nm (L : List Sp) : List Sp := rn 0 (dy L)
theorem nm_len (L : List Sp) : (nm L).length ≤ 1024 := by have := rn_len (dy L) 0; rw [dy_len] at this; exact this

set_option maxRecDepth 100000 in
set_option maxHeartbeats 1600000 in
theorem normal_all (L : List Sp) (A : Option Addr) (cap : Nat) (w : World) (hL : L.length ≤ 1000000) (hl : SL w (· < w.heap.size) L A cap) :
    Calls Try.prog 14 #[.slice A L.length cap] w fun e w' => ∃ A' c', e = .returned (.slice A' (nm L).length c') ∧ SL w' (fun i => w.heap.size ≤ i ∧ i < w'.heap.size) (nm L) A' c' ∧ Below w.heap.size w w' := by
  have C := Lib.hid (daysof_all L A cap w hL hl)
  clear hl
  go_enter Try.func14, Try.ntmps14
  go_wp2_with fail
  refine C.out.mono ?_
  rintro e w2 ⟨g, rfl, hg, hd, hb⟩
  have hgl := hd.lt
  have HD := Lib.hid hd
  have HB := Lib.hid hb
  have hz := hb.size
  clear hd hb C
  go_wp2_with fail
  refine (longest_all g w2).mono ?_
  rintro e w' ⟨rfl, hw'⟩
  rw [hw']
  clear hw' w'
  generalize hW3 : w2.alloc _ = W3
  have hb3 : Below w2.heap.size w2 W3 := by rw [← hW3]; exact (Below.refl _ _).alloc (Nat.le_refl _) _
  have hz3 : W3.heap.size = w2.heap.size + 1 := by rw [← hW3]; simp
  have hc3 : W3.cell? ⟨w2.heap.size, 0, none⟩ = some (.pointer (some ⟨g, 0, none⟩)) := by rw [← hW3]; exact cell_of_row _ w2.heap.size 0 _ _ _ (heap_alloc_new w2 _)
  have C3 := Lib.hid (collect_all w2.heap.size g (dy L) (dy_len L) W3 (by omega) (by omega) hc3 (HD.out.keep (hb3.block g hgl)))
  have HB3 := Lib.hid hb3
  clear hc3 hb3 hW3
  go_wp2_with fail
  refine C3.out.mono ?_
  rintro e w4 ⟨v, rfl, ho, hb4⟩
  have ho' : OwnS w4 W3.heap.size v (nm L) := ho
  obtain ⟨A', c', rfl, hs⟩ := ho'.sl
  have HS := Lib.hid hs
  have HB4 := Lib.hid hb4
  clear ho ho' hs hb4 C3
  go_wp2_with fail
  go_ret
  exact ⟨A', c', rfl, HS.out.keep fun i hi => ⟨⟨by omega, hi.2⟩, rfl⟩, HB.out.trans ((HB3.out.trans (HB4.out.mono (by omega))).mono hz)⟩

def zw (f : Bool → Bool → Bool) (a b : List Sp) : List Bool := List.zipWith f (dy a) (dy b)
theorem zw_len (f : Bool → Bool → Bool) (a b : List Sp) : (zw f a b).length = 1024 := by simp [zw, dy_len]
theorem zw_fB (f : Bool → Bool → Bool) (a b : List Sp) : fB 1024 (fun m => f (hit a m) (hit b m)) = (zw f a b).map Value.bool := by
  apply List.ext_getElem (by simp [fB, zw_len])
  intro m h1 h2
  simp [fB, zw, dy_get]
theorem dy_zw (f : Bool → Bool → Bool) (a b : List Sp) : dy (rn 0 (zw f a b)) = zw f a b := dy_rn _ (zw_len f a b)

set_option maxHeartbeats 800000 in
theorem fn_union (x y : Bool) (w : World) : Calls Try.prog 31 #[.bool x, .bool y] w fun e w' => e = .returned (.bool (x || y)) ∧ w' = w := by
  cases x <;> cases y <;>
    (go_enter Try.func31, Try.ntmps31
     go_wp2_with fail
     go_ret
     exact ⟨rfl, rfl⟩)

set_option maxRecDepth 100000 in
set_option maxHeartbeats 3200000 in
theorem combine_union (L M : List Sp) (A A2 : Option Addr) (cap cap2 : Nat) (w : World) (hL : L.length ≤ 1000000) (hM : M.length ≤ 1000000) (hl : SL w (· < w.heap.size) L A cap) (hm : SL w (· < w.heap.size) M A2 cap2) :
    Calls Try.prog 30 #[.slice A L.length cap, .slice A2 M.length cap2, .func (.func 31) #[] #[]] w fun e w' => ∃ A' c', e = .returned (.slice A' (rn 0 (zw (fun x y => x || y) L M)).length c') ∧ SL w' (fun i => w.heap.size ≤ i ∧ i < w'.heap.size) (rn 0 (zw (fun x y => x || y) L M)) A' c' ∧ Below w.heap.size w w' := by
  have C := Lib.hid (daysof_all L A cap w hL hl)
  have HM := Lib.hid hm
  clear hl hm
  go_enter Try.func30, Try.ntmps30
  go_wp2_with fail
  refine C.out.mono ?_
  rintro e w1 ⟨ga, rfl, hga, hda, hb1⟩
  have hz1 := hb1.size
  have C1 := Lib.hid (daysof_all M A2 cap2 w1 hM (HM.out.keep fun i hi => ⟨by omega, hb1.block i hi⟩))
  have HDA := Lib.hid hda
  have hgal := hda.lt
  have HB1 := Lib.hid hb1
  clear hda hb1 C
  go_wp2_with fail
  refine C1.out.mono ?_
  rintro e w2 ⟨gb, rfl, hgb, hdb, hb2⟩
  have hz2 := hb2.size
  have hgbl := hdb.lt
  have HA2 := Lib.hid (HDA.out.keep (hb2.block ga hgal))
  have HB2 := Lib.hid hdb
  have HW2 := Lib.hid (HB1.out.trans (hb2.mono hz1))
  clear hdb hb2 C1
  go_wp2_with (refine alloc_rw rfl 58 _ rfl zero58 ?_; intro W3 h3 hb3 hz3; have H3 := Lib.hid h3; have HB3 := Lib.hid hb3; have HZ3 := Lib.hid hz3; clear h3 hb3 hz3)
  go_loopw [15] (fun x wr => ∃ n : Nat, n ≤ 1024 ∧ x = .int .i64 n ∧ Rw wr w2.heap.size 58 (fB 1024 fun m => decide (m < n) && (fun x y => x || y) (hit L m) (hit M m)) ∧ Below w2.heap.size w2 wr) (fun x _ => 1024 - (intOf x).toNat)
  case atStart => exact ⟨0, by omega, rfl, by have := H3.out; simpa using this, HB3.out⟩
  case round =>
    obtain ⟨n, hn, rfl, hr, hb⟩ := hrel
    have HR := Lib.hid hr
    have HBR := Lib.hid hb
    have hgx := hr.lt
    by_cases hlt : n < 1024
    · have ca := (HA2.out.keep (hb.block ga (by omega))).cell (show ((dy L).map Value.bool)[n]? = some (.bool (hit L n)) by simp [dy, hlt])
      have cb := (HB2.out.keep (hb.block gb hgbl)).cell (show ((dy M).map Value.bool)[n]? = some (.bool (hit M n)) by simp [dy, hlt])
      have cd := hr.cell (fB_at 1024 (fun m => decide (m < n) && (fun x y => x || y) (hit L m) (hit M m)) n hlt)
      have fd := hr.frozen n
      have b1 : (n : Int) < 1024 := by omega
      have HST := Lib.hid (show Rw (wr.drew.setCell ⟨w2.heap.size, n, none⟩ (.bool ((fun x y => x || y) (hit L n) (hit M n)))) w2.heap.size 58 (fB 1024 fun m => decide (m < n + 1) && (fun x y => x || y) (hit L m) (hit M m)) from by
        have h0 : Rw wr.drew w2.heap.size 58 (fB 1024 fun m => decide (m < n) && (fun x y => x || y) (hit L m) (hit M m)) := HR.out
        have h1 := h0.set n (.bool ((fun x y => x || y) (hit L n) (hit M n)))
        rw [fB_set] at h1
        rw [fB_congr _ _ _ fun i _ => show _ = (if i = n then (fun x y => x || y) (hit L n) (hit M n) else (decide (i < n) && (fun x y => x || y) (hit L i) (hit M i))) from by
          by_cases hi : i = n
          · subst hi; simp
          · rw [if_neg hi]
            by_cases h2 : i < n
            · simp [h2, show i < n + 1 by omega]
            · simp [h2, show ¬ i < n + 1 by omega]]
        exact h1)
      simp only at cd HST
      generalize hit L n = xa at *
      generalize hit M n = xb at *
      clear hr hb
      go_wp2_with fail
      go_still_tail 14, (by kernel_rfl)
      still_call (fn_union xa xb _)
      repeat still_step
      refine wpStill_nil ?_
      change wpList _ _ _ _ _ wr.drew
      go_wp2_with fail
      go_roundw
      case rel => exact ⟨n + 1, by omega, by go_num, HST.out, HBR.out.drew.setCell (Nat.le_refl _) _⟩
      case measure => simp [intOf]; omega
    · obtain rfl : n = 1024 := by omega
      have hfin : Rw wr w2.heap.size 58 ((zw (fun x y => x || y) L M).map Value.bool) := by
        rw [fB_congr _ _ (fun m => (fun x y => x || y) (hit L m) (hit M m)) fun i hi => by simp [hi]] at hr
        rw [← zw_fB]
        exact hr
      have HF := Lib.hid hfin
      have hz := hb.size
      clear hr hb hfin
      go_wp2_with fail
      refine (longest_all w2.heap.size wr).mono ?_
      rintro e w' ⟨rfl, hw'⟩
      rw [hw']
      clear hw' w'
      generalize hW3 : wr.alloc _ = W4
      have hb3 : Below wr.heap.size wr W4 := by rw [← hW3]; exact (Below.refl _ _).alloc (Nat.le_refl _) _
      have hz3 : W4.heap.size = wr.heap.size + 1 := by rw [← hW3]; simp
      have hc3 : W4.cell? ⟨wr.heap.size, 0, none⟩ = some (.pointer (some ⟨w2.heap.size, 0, none⟩)) := by rw [← hW3]; exact cell_of_row _ wr.heap.size 0 _ _ _ (heap_alloc_new wr _)
      have C3 := Lib.hid (collect_all wr.heap.size w2.heap.size (zw (fun x y => x || y) L M) (zw_len _ _ _) W4 (by omega) (by omega) hc3 (HF.out.keep (hb3.block _ hgx)))
      have HB4 := Lib.hid (HW2.out.trans ((HBR.out.trans (hb3.mono (by omega))).mono (by omega)))
      clear hc3 hb3 hW3
      go_wp2_with fail
      refine C3.out.mono ?_
      rintro e w4 ⟨v, rfl, ho, hb4⟩
      have ho' : OwnS w4 W4.heap.size v (rn 0 (zw (fun x y => x || y) L M)) := ho
      obtain ⟨A', c', rfl, hs⟩ := ho'.sl
      have HS := Lib.hid hs
      have HB5 := Lib.hid hb4
      clear ho ho' hs hb4 C3
      go_wp2_with fail
      go_ret
      exact ⟨A', c', rfl, HS.out.keep fun i hi => ⟨⟨by omega, hi.2⟩, rfl⟩, HB4.out.trans (HB5.out.mono (by omega))⟩

set_option maxHeartbeats 800000 in
theorem union_all (L M : List Sp) (A A2 : Option Addr) (cap cap2 : Nat) (w : World) (hL : L.length ≤ 1000000) (hM : M.length ≤ 1000000) (hl : SL w (· < w.heap.size) L A cap) (hm : SL w (· < w.heap.size) M A2 cap2) :
    Calls Try.prog 16 #[.slice A L.length cap, .slice A2 M.length cap2] w fun e w' => ∃ A' c', e = .returned (.slice A' (rn 0 (zw (fun x y => x || y) L M)).length c') ∧ SL w' (fun i => w.heap.size ≤ i ∧ i < w'.heap.size) (rn 0 (zw (fun x y => x || y) L M)) A' c' ∧ Below w.heap.size w w' := by
  have C := Lib.hid (combine_union L M A A2 cap cap2 w hL hM hl hm)
  clear hl hm
  go_enter Try.func16, Try.ntmps16
  go_wp2_with fail
  refine C.out.mono ?_
  rintro e w2 ⟨A', c', rfl, hs, hb⟩
  have HS := Lib.hid hs
  have HB := Lib.hid hb
  clear hs hb C
  go_wp2_with fail
  go_ret
  exact ⟨A', c', rfl, HS.out, HB.out⟩

set_option maxHeartbeats 800000 in
theorem fn_meet (x y : Bool) (w : World) : Calls Try.prog 32 #[.bool x, .bool y] w fun e w' => e = .returned (.bool (x && y)) ∧ w' = w := by
  cases x <;> cases y <;>
    (go_enter Try.func32, Try.ntmps32
     go_wp2_with fail
     go_ret
     exact ⟨rfl, rfl⟩)

set_option maxRecDepth 100000 in
set_option maxHeartbeats 3200000 in
theorem combine_meet (L M : List Sp) (A A2 : Option Addr) (cap cap2 : Nat) (w : World) (hL : L.length ≤ 1000000) (hM : M.length ≤ 1000000) (hl : SL w (· < w.heap.size) L A cap) (hm : SL w (· < w.heap.size) M A2 cap2) :
    Calls Try.prog 30 #[.slice A L.length cap, .slice A2 M.length cap2, .func (.func 32) #[] #[]] w fun e w' => ∃ A' c', e = .returned (.slice A' (rn 0 (zw (fun x y => x && y) L M)).length c') ∧ SL w' (fun i => w.heap.size ≤ i ∧ i < w'.heap.size) (rn 0 (zw (fun x y => x && y) L M)) A' c' ∧ Below w.heap.size w w' := by
  have C := Lib.hid (daysof_all L A cap w hL hl)
  have HM := Lib.hid hm
  clear hl hm
  go_enter Try.func30, Try.ntmps30
  go_wp2_with fail
  refine C.out.mono ?_
  rintro e w1 ⟨ga, rfl, hga, hda, hb1⟩
  have hz1 := hb1.size
  have C1 := Lib.hid (daysof_all M A2 cap2 w1 hM (HM.out.keep fun i hi => ⟨by omega, hb1.block i hi⟩))
  have HDA := Lib.hid hda
  have hgal := hda.lt
  have HB1 := Lib.hid hb1
  clear hda hb1 C
  go_wp2_with fail
  refine C1.out.mono ?_
  rintro e w2 ⟨gb, rfl, hgb, hdb, hb2⟩
  have hz2 := hb2.size
  have hgbl := hdb.lt
  have HA2 := Lib.hid (HDA.out.keep (hb2.block ga hgal))
  have HB2 := Lib.hid hdb
  have HW2 := Lib.hid (HB1.out.trans (hb2.mono hz1))
  clear hdb hb2 C1
  go_wp2_with (refine alloc_rw rfl 58 _ rfl zero58 ?_; intro W3 h3 hb3 hz3; have H3 := Lib.hid h3; have HB3 := Lib.hid hb3; have HZ3 := Lib.hid hz3; clear h3 hb3 hz3)
  go_loopw [15] (fun x wr => ∃ n : Nat, n ≤ 1024 ∧ x = .int .i64 n ∧ Rw wr w2.heap.size 58 (fB 1024 fun m => decide (m < n) && (fun x y => x && y) (hit L m) (hit M m)) ∧ Below w2.heap.size w2 wr) (fun x _ => 1024 - (intOf x).toNat)
  case atStart => exact ⟨0, by omega, rfl, by have := H3.out; simpa using this, HB3.out⟩
  case round =>
    obtain ⟨n, hn, rfl, hr, hb⟩ := hrel
    have HR := Lib.hid hr
    have HBR := Lib.hid hb
    have hgx := hr.lt
    by_cases hlt : n < 1024
    · have ca := (HA2.out.keep (hb.block ga (by omega))).cell (show ((dy L).map Value.bool)[n]? = some (.bool (hit L n)) by simp [dy, hlt])
      have cb := (HB2.out.keep (hb.block gb hgbl)).cell (show ((dy M).map Value.bool)[n]? = some (.bool (hit M n)) by simp [dy, hlt])
      have cd := hr.cell (fB_at 1024 (fun m => decide (m < n) && (fun x y => x && y) (hit L m) (hit M m)) n hlt)
      have fd := hr.frozen n
      have b1 : (n : Int) < 1024 := by omega
      have HST := Lib.hid (show Rw (wr.drew.setCell ⟨w2.heap.size, n, none⟩ (.bool ((fun x y => x && y) (hit L n) (hit M n)))) w2.heap.size 58 (fB 1024 fun m => decide (m < n + 1) && (fun x y => x && y) (hit L m) (hit M m)) from by
        have h0 : Rw wr.drew w2.heap.size 58 (fB 1024 fun m => decide (m < n) && (fun x y => x && y) (hit L m) (hit M m)) := HR.out
        have h1 := h0.set n (.bool ((fun x y => x && y) (hit L n) (hit M n)))
        rw [fB_set] at h1
        rw [fB_congr _ _ _ fun i _ => show _ = (if i = n then (fun x y => x && y) (hit L n) (hit M n) else (decide (i < n) && (fun x y => x && y) (hit L i) (hit M i))) from by
          by_cases hi : i = n
          · subst hi; simp
          · rw [if_neg hi]
            by_cases h2 : i < n
            · simp [h2, show i < n + 1 by omega]
            · simp [h2, show ¬ i < n + 1 by omega]]
        exact h1)
      simp only at cd HST
      generalize hit L n = xa at *
      generalize hit M n = xb at *
      clear hr hb
      go_wp2_with fail
      go_still_tail 14, (by kernel_rfl)
      still_call (fn_meet xa xb _)
      repeat still_step
      refine wpStill_nil ?_
      change wpList _ _ _ _ _ wr.drew
      go_wp2_with fail
      go_roundw
      case rel => exact ⟨n + 1, by omega, by go_num, HST.out, HBR.out.drew.setCell (Nat.le_refl _) _⟩
      case measure => simp [intOf]; omega
    · obtain rfl : n = 1024 := by omega
      have hfin : Rw wr w2.heap.size 58 ((zw (fun x y => x && y) L M).map Value.bool) := by
        rw [fB_congr _ _ (fun m => (fun x y => x && y) (hit L m) (hit M m)) fun i hi => by simp [hi]] at hr
        rw [← zw_fB]
        exact hr
      have HF := Lib.hid hfin
      have hz := hb.size
      clear hr hb hfin
      go_wp2_with fail
      refine (longest_all w2.heap.size wr).mono ?_
      rintro e w' ⟨rfl, hw'⟩
      rw [hw']
      clear hw' w'
      generalize hW3 : wr.alloc _ = W4
      have hb3 : Below wr.heap.size wr W4 := by rw [← hW3]; exact (Below.refl _ _).alloc (Nat.le_refl _) _
      have hz3 : W4.heap.size = wr.heap.size + 1 := by rw [← hW3]; simp
      have hc3 : W4.cell? ⟨wr.heap.size, 0, none⟩ = some (.pointer (some ⟨w2.heap.size, 0, none⟩)) := by rw [← hW3]; exact cell_of_row _ wr.heap.size 0 _ _ _ (heap_alloc_new wr _)
      have C3 := Lib.hid (collect_all wr.heap.size w2.heap.size (zw (fun x y => x && y) L M) (zw_len _ _ _) W4 (by omega) (by omega) hc3 (HF.out.keep (hb3.block _ hgx)))
      have HB4 := Lib.hid (HW2.out.trans ((HBR.out.trans (hb3.mono (by omega))).mono (by omega)))
      clear hc3 hb3 hW3
      go_wp2_with fail
      refine C3.out.mono ?_
      rintro e w4 ⟨v, rfl, ho, hb4⟩
      have ho' : OwnS w4 W4.heap.size v (rn 0 (zw (fun x y => x && y) L M)) := ho
      obtain ⟨A', c', rfl, hs⟩ := ho'.sl
      have HS := Lib.hid hs
      have HB5 := Lib.hid hb4
      clear ho ho' hs hb4 C3
      go_wp2_with fail
      go_ret
      exact ⟨A', c', rfl, HS.out.keep fun i hi => ⟨⟨by omega, hi.2⟩, rfl⟩, HB4.out.trans (HB5.out.mono (by omega))⟩

set_option maxHeartbeats 800000 in
theorem meet_all (L M : List Sp) (A A2 : Option Addr) (cap cap2 : Nat) (w : World) (hL : L.length ≤ 1000000) (hM : M.length ≤ 1000000) (hl : SL w (· < w.heap.size) L A cap) (hm : SL w (· < w.heap.size) M A2 cap2) :
    Calls Try.prog 18 #[.slice A L.length cap, .slice A2 M.length cap2] w fun e w' => ∃ A' c', e = .returned (.slice A' (rn 0 (zw (fun x y => x && y) L M)).length c') ∧ SL w' (fun i => w.heap.size ≤ i ∧ i < w'.heap.size) (rn 0 (zw (fun x y => x && y) L M)) A' c' ∧ Below w.heap.size w w' := by
  have C := Lib.hid (combine_meet L M A A2 cap cap2 w hL hM hl hm)
  clear hl hm
  go_enter Try.func18, Try.ntmps18
  go_wp2_with fail
  refine C.out.mono ?_
  rintro e w2 ⟨A', c', rfl, hs, hb⟩
  have HS := Lib.hid hs
  have HB := Lib.hid hb
  clear hs hb C
  go_wp2_with fail
  go_ret
  exact ⟨A', c', rfl, HS.out, HB.out⟩

set_option maxHeartbeats 800000 in
theorem fn_minus (x y : Bool) (w : World) : Calls Try.prog 33 #[.bool x, .bool y] w fun e w' => e = .returned (.bool (x && !y)) ∧ w' = w := by
  cases x <;> cases y <;>
    (go_enter Try.func33, Try.ntmps33
     go_wp2_with fail
     go_ret
     exact ⟨rfl, rfl⟩)

set_option maxRecDepth 100000 in
set_option maxHeartbeats 3200000 in
theorem combine_minus (L M : List Sp) (A A2 : Option Addr) (cap cap2 : Nat) (w : World) (hL : L.length ≤ 1000000) (hM : M.length ≤ 1000000) (hl : SL w (· < w.heap.size) L A cap) (hm : SL w (· < w.heap.size) M A2 cap2) :
    Calls Try.prog 30 #[.slice A L.length cap, .slice A2 M.length cap2, .func (.func 33) #[] #[]] w fun e w' => ∃ A' c', e = .returned (.slice A' (rn 0 (zw (fun x y => x && !y) L M)).length c') ∧ SL w' (fun i => w.heap.size ≤ i ∧ i < w'.heap.size) (rn 0 (zw (fun x y => x && !y) L M)) A' c' ∧ Below w.heap.size w w' := by
  have C := Lib.hid (daysof_all L A cap w hL hl)
  have HM := Lib.hid hm
  clear hl hm
  go_enter Try.func30, Try.ntmps30
  go_wp2_with fail
  refine C.out.mono ?_
  rintro e w1 ⟨ga, rfl, hga, hda, hb1⟩
  have hz1 := hb1.size
  have C1 := Lib.hid (daysof_all M A2 cap2 w1 hM (HM.out.keep fun i hi => ⟨by omega, hb1.block i hi⟩))
  have HDA := Lib.hid hda
  have hgal := hda.lt
  have HB1 := Lib.hid hb1
  clear hda hb1 C
  go_wp2_with fail
  refine C1.out.mono ?_
  rintro e w2 ⟨gb, rfl, hgb, hdb, hb2⟩
  have hz2 := hb2.size
  have hgbl := hdb.lt
  have HA2 := Lib.hid (HDA.out.keep (hb2.block ga hgal))
  have HB2 := Lib.hid hdb
  have HW2 := Lib.hid (HB1.out.trans (hb2.mono hz1))
  clear hdb hb2 C1
  go_wp2_with (refine alloc_rw rfl 58 _ rfl zero58 ?_; intro W3 h3 hb3 hz3; have H3 := Lib.hid h3; have HB3 := Lib.hid hb3; have HZ3 := Lib.hid hz3; clear h3 hb3 hz3)
  go_loopw [15] (fun x wr => ∃ n : Nat, n ≤ 1024 ∧ x = .int .i64 n ∧ Rw wr w2.heap.size 58 (fB 1024 fun m => decide (m < n) && (fun x y => x && !y) (hit L m) (hit M m)) ∧ Below w2.heap.size w2 wr) (fun x _ => 1024 - (intOf x).toNat)
  case atStart => exact ⟨0, by omega, rfl, by have := H3.out; simpa using this, HB3.out⟩
  case round =>
    obtain ⟨n, hn, rfl, hr, hb⟩ := hrel
    have HR := Lib.hid hr
    have HBR := Lib.hid hb
    have hgx := hr.lt
    by_cases hlt : n < 1024
    · have ca := (HA2.out.keep (hb.block ga (by omega))).cell (show ((dy L).map Value.bool)[n]? = some (.bool (hit L n)) by simp [dy, hlt])
      have cb := (HB2.out.keep (hb.block gb hgbl)).cell (show ((dy M).map Value.bool)[n]? = some (.bool (hit M n)) by simp [dy, hlt])
      have cd := hr.cell (fB_at 1024 (fun m => decide (m < n) && (fun x y => x && !y) (hit L m) (hit M m)) n hlt)
      have fd := hr.frozen n
      have b1 : (n : Int) < 1024 := by omega
      have HST := Lib.hid (show Rw (wr.drew.setCell ⟨w2.heap.size, n, none⟩ (.bool ((fun x y => x && !y) (hit L n) (hit M n)))) w2.heap.size 58 (fB 1024 fun m => decide (m < n + 1) && (fun x y => x && !y) (hit L m) (hit M m)) from by
        have h0 : Rw wr.drew w2.heap.size 58 (fB 1024 fun m => decide (m < n) && (fun x y => x && !y) (hit L m) (hit M m)) := HR.out
        have h1 := h0.set n (.bool ((fun x y => x && !y) (hit L n) (hit M n)))
        rw [fB_set] at h1
        rw [fB_congr _ _ _ fun i _ => show _ = (if i = n then (fun x y => x && !y) (hit L n) (hit M n) else (decide (i < n) && (fun x y => x && !y) (hit L i) (hit M i))) from by
          by_cases hi : i = n
          · subst hi; simp
          · rw [if_neg hi]
            by_cases h2 : i < n
            · simp [h2, show i < n + 1 by omega]
            · simp [h2, show ¬ i < n + 1 by omega]]
        exact h1)
      simp only at cd HST
      generalize hit L n = xa at *
      generalize hit M n = xb at *
      clear hr hb
      go_wp2_with fail
      go_still_tail 14, (by kernel_rfl)
      still_call (fn_minus xa xb _)
      repeat still_step
      refine wpStill_nil ?_
      change wpList _ _ _ _ _ wr.drew
      go_wp2_with fail
      go_roundw
      case rel => exact ⟨n + 1, by omega, by go_num, HST.out, HBR.out.drew.setCell (Nat.le_refl _) _⟩
      case measure => simp [intOf]; omega
    · obtain rfl : n = 1024 := by omega
      have hfin : Rw wr w2.heap.size 58 ((zw (fun x y => x && !y) L M).map Value.bool) := by
        rw [fB_congr _ _ (fun m => (fun x y => x && !y) (hit L m) (hit M m)) fun i hi => by simp [hi]] at hr
        rw [← zw_fB]
        exact hr
      have HF := Lib.hid hfin
      have hz := hb.size
      clear hr hb hfin
      go_wp2_with fail
      refine (longest_all w2.heap.size wr).mono ?_
      rintro e w' ⟨rfl, hw'⟩
      rw [hw']
      clear hw' w'
      generalize hW3 : wr.alloc _ = W4
      have hb3 : Below wr.heap.size wr W4 := by rw [← hW3]; exact (Below.refl _ _).alloc (Nat.le_refl _) _
      have hz3 : W4.heap.size = wr.heap.size + 1 := by rw [← hW3]; simp
      have hc3 : W4.cell? ⟨wr.heap.size, 0, none⟩ = some (.pointer (some ⟨w2.heap.size, 0, none⟩)) := by rw [← hW3]; exact cell_of_row _ wr.heap.size 0 _ _ _ (heap_alloc_new wr _)
      have C3 := Lib.hid (collect_all wr.heap.size w2.heap.size (zw (fun x y => x && !y) L M) (zw_len _ _ _) W4 (by omega) (by omega) hc3 (HF.out.keep (hb3.block _ hgx)))
      have HB4 := Lib.hid (HW2.out.trans ((HBR.out.trans (hb3.mono (by omega))).mono (by omega)))
      clear hc3 hb3 hW3
      go_wp2_with fail
      refine C3.out.mono ?_
      rintro e w4 ⟨v, rfl, ho, hb4⟩
      have ho' : OwnS w4 W4.heap.size v (rn 0 (zw (fun x y => x && !y) L M)) := ho
      obtain ⟨A', c', rfl, hs⟩ := ho'.sl
      have HS := Lib.hid hs
      have HB5 := Lib.hid hb4
      clear ho ho' hs hb4 C3
      go_wp2_with fail
      go_ret
      exact ⟨A', c', rfl, HS.out.keep fun i hi => ⟨⟨by omega, hi.2⟩, rfl⟩, HB4.out.trans (HB5.out.mono (by omega))⟩

set_option maxHeartbeats 800000 in
theorem minus_all (L M : List Sp) (A A2 : Option Addr) (cap cap2 : Nat) (w : World) (hL : L.length ≤ 1000000) (hM : M.length ≤ 1000000) (hl : SL w (· < w.heap.size) L A cap) (hm : SL w (· < w.heap.size) M A2 cap2) :
    Calls Try.prog 20 #[.slice A L.length cap, .slice A2 M.length cap2] w fun e w' => ∃ A' c', e = .returned (.slice A' (rn 0 (zw (fun x y => x && !y) L M)).length c') ∧ SL w' (fun i => w.heap.size ≤ i ∧ i < w'.heap.size) (rn 0 (zw (fun x y => x && !y) L M)) A' c' ∧ Below w.heap.size w w' := by
  have C := Lib.hid (combine_minus L M A A2 cap cap2 w hL hM hl hm)
  clear hl hm
  go_enter Try.func20, Try.ntmps20
  go_wp2_with fail
  refine C.out.mono ?_
  rintro e w2 ⟨A', c', rfl, hs, hb⟩
  have HS := Lib.hid hs
  have HB := Lib.hid hb
  clear hs hb C
  go_wp2_with fail
  go_ret
  exact ⟨A', c', rfl, HS.out, HB.out⟩
end Go.Proofs.Ytofjbplojhlnoaa
