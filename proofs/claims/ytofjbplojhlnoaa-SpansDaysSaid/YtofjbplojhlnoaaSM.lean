/- Spans: the reference's Normal, Union, Meet, Minus. -/
import Derived.Test.YtofjbplojhlnoaaSL
namespace Go.Proofs.Ytofjbplojhlnoaa
open Go.RowKit

set_option maxHeartbeats 1600000 in
theorem rnormal_all (L : List Sp) (A : Option Addr) (cap : Nat) (w : World) (hl : SL w (· < w.heap.size) L A cap) :
    Calls Try.prog 15 #[.slice A L.length cap] w fun e w' => ∃ A' c', e = .returned (.slice A' (nm L).length c') ∧ SL w' (fun i => w.heap.size ≤ i ∧ i < w'.heap.size) (nm L) A' c' ∧ Below w.heap.size w w' := by
  have C := Lib.hid (rdays_all L A cap w hl)
  clear hl
  go_enter Try.func15, Try.ntmps15
  go_wp2_with fail
  refine C.out.mono ?_
  rintro e w2 ⟨rfl, hd, hb⟩
  have hz := hb.size
  rw [fB_days] at hd
  have C2 := Lib.hid (rspans_all (dy L) (dy_len L) w.heap.size w2 hd)
  have HB := Lib.hid hb
  clear hd hb C
  go_wp2_with fail
  refine C2.out.mono ?_
  rintro e w3 ⟨A', c', rfl, hs, hb3⟩
  have HS := Lib.hid hs
  have HB3 := Lib.hid hb3
  clear hs hb3 C2
  go_wp2_with fail
  go_ret
  exact ⟨A', c', rfl, HS.out.keep fun i hi => ⟨⟨by omega, hi.2⟩, rfl⟩, HB.out.trans (HB3.out.mono hz)⟩

set_option maxRecDepth 100000 in
set_option maxHeartbeats 3200000 in
theorem runion_all (L M : List Sp) (A A2 : Option Addr) (cap cap2 : Nat) (w : World) (hl : SL w (· < w.heap.size) L A cap) (hm : SL w (· < w.heap.size) M A2 cap2) :
    Calls Try.prog 17 #[.slice A L.length cap, .slice A2 M.length cap2] w fun e w' => ∃ A' c', e = .returned (.slice A' (rn 0 (zw (fun x y => x || y) L M)).length c') ∧ SL w' (fun i => w.heap.size ≤ i ∧ i < w'.heap.size) (rn 0 (zw (fun x y => x || y) L M)) A' c' ∧ Below w.heap.size w w' := by
  have C := Lib.hid (rdays_all L A cap w hl)
  have HM := Lib.hid hm
  clear hl hm
  go_enter Try.func17, Try.ntmps17
  go_wp2_with fail
  refine C.out.mono ?_
  rintro e w1 ⟨rfl, hd, hb1⟩
  have hz1 := hb1.size
  have hlt1 := hd.lt
  have C1 := Lib.hid (rdays_all M A2 cap2 w1 (HM.out.keep fun i hi => ⟨by omega, hb1.block i hi⟩))
  have HD := Lib.hid hd
  have HB1 := Lib.hid hb1
  clear hd hb1 C
  go_wp2_with fail
  refine C1.out.mono ?_
  rintro e w2 ⟨rfl, hd2, hb2⟩
  have hz2 := hb2.size
  have hlt2 := hd2.lt
  have HD1 := Lib.hid (HD.out.keep (hb2.block _ hlt1))
  have HD2 := Lib.hid hd2
  have HB2 := Lib.hid (HB1.out.trans (hb2.mono hz1))
  clear hd2 hb2 C1
  go_wp2_with fail
  go_loopw [7] (fun x wr => ∃ m : Nat, m ≤ 1024 ∧ x = .int .i64 m ∧ Rw wr w.heap.size 4 (fB 1024 fun i => if i < m then (fun x y => x || y) (hit L i) (hit M i) else hit L i) ∧ Rw wr w1.heap.size 4 (fB 1024 fun i => hit M i) ∧ Below w.heap.size w wr) (fun x _ => 1024 - (intOf x).toNat)
  case atStart => exact ⟨0, by omega, rfl, by have := HD1.out; simpa using this, HD2.out, HB2.out⟩
  case round =>
    obtain ⟨m, hm, rfl, hr, hd, hb⟩ := hrel
    have HR := Lib.hid hr
    have HDD := Lib.hid hd
    have HB := Lib.hid hb
    have hne : ¬ w.heap.size = w1.heap.size := by omega
    have hne' : ¬ w1.heap.size = w.heap.size := by omega
    by_cases hlt : m < 1024
    · have c1 := hr.cell (fB_at 1024 (fun i => if i < m then (fun x y => x || y) (hit L i) (hit M i) else hit L i) m hlt)
      have c2 := hd.cell (fB_at 1024 (fun i => hit M i) m hlt)
      have f1 := hr.frozen m
      have b1 : (m : Int) < 1024 := by omega
      rw [if_neg (Nat.lt_irrefl m)] at c1
      have HST := Lib.hid (show ∀ b, b = (fun x y => x || y) (hit L m) (hit M m) → Rw (wr.setCell ⟨w.heap.size, m, none⟩ (.bool b)) w.heap.size 4 (fB 1024 fun i => if i < m + 1 then (fun x y => x || y) (hit L i) (hit M i) else hit L i) from by
        rintro b rfl
        have h1 := HR.out.set m (.bool ((fun x y => x || y) (hit L m) (hit M m)))
        rw [fB_set] at h1
        rw [fB_congr _ _ _ fun i _ => show _ = (if i = m then (fun x y => x || y) (hit L m) (hit M m) else (if i < m then (fun x y => x || y) (hit L i) (hit M i) else hit L i)) from by
          by_cases hi : i = m
          · subst hi; rw [if_pos (by omega), if_pos rfl]
          · rw [if_neg hi]
            by_cases h2 : i < m
            · rw [if_pos h2, if_pos (by omega)]
            · rw [if_neg h2, if_neg (by omega)]]
        exact h1)
      have HKK := Lib.hid (show ∀ v, Rw (wr.setCell ⟨w.heap.size, m, none⟩ v) w1.heap.size 4 (fB 1024 fun i => hit M i) from fun v => HDD.out.keep (Below.heap_setCell _ _ _ _ (by simpa using hne')))
      clear hr hd hb
      obtain ⟨xa, hxa⟩ : ∃ b, b = hit L m := ⟨_, rfl⟩
      obtain ⟨xb, hxb⟩ : ∃ b, b = hit M m := ⟨_, rfl⟩
      rw [← hxa] at c1 HST
      rw [← hxb] at c2 HST
      clear hxa hxb
      cases xa <;> cases xb
      all_goals
        have HS2 := Lib.hid (HST.out _ rfl)
        clear HST
        go_wp2_with fail
        go_roundw
        case rel => exact ⟨m + 1, by omega, by go_num, HS2.out, HKK.out _, HB.out.setCell (Nat.le_refl _) _⟩
        case measure => simp [intOf]; omega
    · obtain rfl : m = 1024 := by omega
      have hfin : Rw wr w.heap.size 4 ((zw (fun x y => x || y) L M).map Value.bool) := by
        rw [fB_congr _ _ (fun m => (fun x y => x || y) (hit L m) (hit M m)) fun i hi => by rw [if_pos hi]] at hr
        rw [← zw_fB]
        exact hr
      have C3 := Lib.hid (rspans_all (zw (fun x y => x || y) L M) (zw_len _ _ _) w.heap.size wr hfin)
      have hz := hb.size
      clear hr hd hb hfin
      go_wp2_with fail
      refine C3.out.mono ?_
      rintro e w4 ⟨A', c', rfl, hs, hb4⟩
      have HS := Lib.hid hs
      have HB4 := Lib.hid hb4
      clear hs hb4 C3
      go_wp2_with fail
      go_ret
      exact ⟨A', c', rfl, HS.out.keep fun i hi => ⟨⟨by omega, hi.2⟩, rfl⟩, HB.out.trans (HB4.out.mono (by omega))⟩

set_option maxRecDepth 100000 in
set_option maxHeartbeats 3200000 in
theorem rmeet_all (L M : List Sp) (A A2 : Option Addr) (cap cap2 : Nat) (w : World) (hl : SL w (· < w.heap.size) L A cap) (hm : SL w (· < w.heap.size) M A2 cap2) :
    Calls Try.prog 19 #[.slice A L.length cap, .slice A2 M.length cap2] w fun e w' => ∃ A' c', e = .returned (.slice A' (rn 0 (zw (fun x y => x && y) L M)).length c') ∧ SL w' (fun i => w.heap.size ≤ i ∧ i < w'.heap.size) (rn 0 (zw (fun x y => x && y) L M)) A' c' ∧ Below w.heap.size w w' := by
  have C := Lib.hid (rdays_all L A cap w hl)
  have HM := Lib.hid hm
  clear hl hm
  go_enter Try.func19, Try.ntmps19
  go_wp2_with fail
  refine C.out.mono ?_
  rintro e w1 ⟨rfl, hd, hb1⟩
  have hz1 := hb1.size
  have hlt1 := hd.lt
  have C1 := Lib.hid (rdays_all M A2 cap2 w1 (HM.out.keep fun i hi => ⟨by omega, hb1.block i hi⟩))
  have HD := Lib.hid hd
  have HB1 := Lib.hid hb1
  clear hd hb1 C
  go_wp2_with fail
  refine C1.out.mono ?_
  rintro e w2 ⟨rfl, hd2, hb2⟩
  have hz2 := hb2.size
  have hlt2 := hd2.lt
  have HD1 := Lib.hid (HD.out.keep (hb2.block _ hlt1))
  have HD2 := Lib.hid hd2
  have HB2 := Lib.hid (HB1.out.trans (hb2.mono hz1))
  clear hd2 hb2 C1
  go_wp2_with fail
  go_loopw [7] (fun x wr => ∃ m : Nat, m ≤ 1024 ∧ x = .int .i64 m ∧ Rw wr w.heap.size 4 (fB 1024 fun i => if i < m then (fun x y => x && y) (hit L i) (hit M i) else hit L i) ∧ Rw wr w1.heap.size 4 (fB 1024 fun i => hit M i) ∧ Below w.heap.size w wr) (fun x _ => 1024 - (intOf x).toNat)
  case atStart => exact ⟨0, by omega, rfl, by have := HD1.out; simpa using this, HD2.out, HB2.out⟩
  case round =>
    obtain ⟨m, hm, rfl, hr, hd, hb⟩ := hrel
    have HR := Lib.hid hr
    have HDD := Lib.hid hd
    have HB := Lib.hid hb
    have hne : ¬ w.heap.size = w1.heap.size := by omega
    have hne' : ¬ w1.heap.size = w.heap.size := by omega
    by_cases hlt : m < 1024
    · have c1 := hr.cell (fB_at 1024 (fun i => if i < m then (fun x y => x && y) (hit L i) (hit M i) else hit L i) m hlt)
      have c2 := hd.cell (fB_at 1024 (fun i => hit M i) m hlt)
      have f1 := hr.frozen m
      have b1 : (m : Int) < 1024 := by omega
      rw [if_neg (Nat.lt_irrefl m)] at c1
      have HST := Lib.hid (show ∀ b, b = (fun x y => x && y) (hit L m) (hit M m) → Rw (wr.setCell ⟨w.heap.size, m, none⟩ (.bool b)) w.heap.size 4 (fB 1024 fun i => if i < m + 1 then (fun x y => x && y) (hit L i) (hit M i) else hit L i) from by
        rintro b rfl
        have h1 := HR.out.set m (.bool ((fun x y => x && y) (hit L m) (hit M m)))
        rw [fB_set] at h1
        rw [fB_congr _ _ _ fun i _ => show _ = (if i = m then (fun x y => x && y) (hit L m) (hit M m) else (if i < m then (fun x y => x && y) (hit L i) (hit M i) else hit L i)) from by
          by_cases hi : i = m
          · subst hi; rw [if_pos (by omega), if_pos rfl]
          · rw [if_neg hi]
            by_cases h2 : i < m
            · rw [if_pos h2, if_pos (by omega)]
            · rw [if_neg h2, if_neg (by omega)]]
        exact h1)
      have HKK := Lib.hid (show ∀ v, Rw (wr.setCell ⟨w.heap.size, m, none⟩ v) w1.heap.size 4 (fB 1024 fun i => hit M i) from fun v => HDD.out.keep (Below.heap_setCell _ _ _ _ (by simpa using hne')))
      clear hr hd hb
      obtain ⟨xa, hxa⟩ : ∃ b, b = hit L m := ⟨_, rfl⟩
      obtain ⟨xb, hxb⟩ : ∃ b, b = hit M m := ⟨_, rfl⟩
      rw [← hxa] at c1 HST
      rw [← hxb] at c2 HST
      clear hxa hxb
      cases xa <;> cases xb
      all_goals
        have HS2 := Lib.hid (HST.out _ rfl)
        clear HST
        go_wp2_with fail
        go_roundw
        case rel => exact ⟨m + 1, by omega, by go_num, HS2.out, HKK.out _, HB.out.setCell (Nat.le_refl _) _⟩
        case measure => simp [intOf]; omega
    · obtain rfl : m = 1024 := by omega
      have hfin : Rw wr w.heap.size 4 ((zw (fun x y => x && y) L M).map Value.bool) := by
        rw [fB_congr _ _ (fun m => (fun x y => x && y) (hit L m) (hit M m)) fun i hi => by rw [if_pos hi]] at hr
        rw [← zw_fB]
        exact hr
      have C3 := Lib.hid (rspans_all (zw (fun x y => x && y) L M) (zw_len _ _ _) w.heap.size wr hfin)
      have hz := hb.size
      clear hr hd hb hfin
      go_wp2_with fail
      refine C3.out.mono ?_
      rintro e w4 ⟨A', c', rfl, hs, hb4⟩
      have HS := Lib.hid hs
      have HB4 := Lib.hid hb4
      clear hs hb4 C3
      go_wp2_with fail
      go_ret
      exact ⟨A', c', rfl, HS.out.keep fun i hi => ⟨⟨by omega, hi.2⟩, rfl⟩, HB.out.trans (HB4.out.mono (by omega))⟩

set_option maxRecDepth 100000 in
set_option maxHeartbeats 3200000 in
theorem rminus_all (L M : List Sp) (A A2 : Option Addr) (cap cap2 : Nat) (w : World) (hl : SL w (· < w.heap.size) L A cap) (hm : SL w (· < w.heap.size) M A2 cap2) :
    Calls Try.prog 21 #[.slice A L.length cap, .slice A2 M.length cap2] w fun e w' => ∃ A' c', e = .returned (.slice A' (rn 0 (zw (fun x y => x && !y) L M)).length c') ∧ SL w' (fun i => w.heap.size ≤ i ∧ i < w'.heap.size) (rn 0 (zw (fun x y => x && !y) L M)) A' c' ∧ Below w.heap.size w w' := by
  have C := Lib.hid (rdays_all L A cap w hl)
  have HM := Lib.hid hm
  clear hl hm
  go_enter Try.func21, Try.ntmps21
  go_wp2_with fail
  refine C.out.mono ?_
  rintro e w1 ⟨rfl, hd, hb1⟩
  have hz1 := hb1.size
  have hlt1 := hd.lt
  have C1 := Lib.hid (rdays_all M A2 cap2 w1 (HM.out.keep fun i hi => ⟨by omega, hb1.block i hi⟩))
  have HD := Lib.hid hd
  have HB1 := Lib.hid hb1
  clear hd hb1 C
  go_wp2_with fail
  refine C1.out.mono ?_
  rintro e w2 ⟨rfl, hd2, hb2⟩
  have hz2 := hb2.size
  have hlt2 := hd2.lt
  have HD1 := Lib.hid (HD.out.keep (hb2.block _ hlt1))
  have HD2 := Lib.hid hd2
  have HB2 := Lib.hid (HB1.out.trans (hb2.mono hz1))
  clear hd2 hb2 C1
  go_wp2_with fail
  go_loopw [7] (fun x wr => ∃ m : Nat, m ≤ 1024 ∧ x = .int .i64 m ∧ Rw wr w.heap.size 4 (fB 1024 fun i => if i < m then (fun x y => x && !y) (hit L i) (hit M i) else hit L i) ∧ Rw wr w1.heap.size 4 (fB 1024 fun i => hit M i) ∧ Below w.heap.size w wr) (fun x _ => 1024 - (intOf x).toNat)
  case atStart => exact ⟨0, by omega, rfl, by have := HD1.out; simpa using this, HD2.out, HB2.out⟩
  case round =>
    obtain ⟨m, hm, rfl, hr, hd, hb⟩ := hrel
    have HR := Lib.hid hr
    have HDD := Lib.hid hd
    have HB := Lib.hid hb
    have hne : ¬ w.heap.size = w1.heap.size := by omega
    have hne' : ¬ w1.heap.size = w.heap.size := by omega
    by_cases hlt : m < 1024
    · have c1 := hr.cell (fB_at 1024 (fun i => if i < m then (fun x y => x && !y) (hit L i) (hit M i) else hit L i) m hlt)
      have c2 := hd.cell (fB_at 1024 (fun i => hit M i) m hlt)
      have f1 := hr.frozen m
      have b1 : (m : Int) < 1024 := by omega
      rw [if_neg (Nat.lt_irrefl m)] at c1
      have HST := Lib.hid (show ∀ b, b = (fun x y => x && !y) (hit L m) (hit M m) → Rw (wr.setCell ⟨w.heap.size, m, none⟩ (.bool b)) w.heap.size 4 (fB 1024 fun i => if i < m + 1 then (fun x y => x && !y) (hit L i) (hit M i) else hit L i) from by
        rintro b rfl
        have h1 := HR.out.set m (.bool ((fun x y => x && !y) (hit L m) (hit M m)))
        rw [fB_set] at h1
        rw [fB_congr _ _ _ fun i _ => show _ = (if i = m then (fun x y => x && !y) (hit L m) (hit M m) else (if i < m then (fun x y => x && !y) (hit L i) (hit M i) else hit L i)) from by
          by_cases hi : i = m
          · subst hi; rw [if_pos (by omega), if_pos rfl]
          · rw [if_neg hi]
            by_cases h2 : i < m
            · rw [if_pos h2, if_pos (by omega)]
            · rw [if_neg h2, if_neg (by omega)]]
        exact h1)
      have HKK := Lib.hid (show ∀ v, Rw (wr.setCell ⟨w.heap.size, m, none⟩ v) w1.heap.size 4 (fB 1024 fun i => hit M i) from fun v => HDD.out.keep (Below.heap_setCell _ _ _ _ (by simpa using hne')))
      clear hr hd hb
      obtain ⟨xa, hxa⟩ : ∃ b, b = hit L m := ⟨_, rfl⟩
      obtain ⟨xb, hxb⟩ : ∃ b, b = hit M m := ⟨_, rfl⟩
      rw [← hxa] at c1 HST
      rw [← hxb] at c2 HST
      clear hxa hxb
      cases xa <;> cases xb
      all_goals
        have HS2 := Lib.hid (HST.out _ rfl)
        clear HST
        go_wp2_with fail
        go_roundw
        case rel => exact ⟨m + 1, by omega, by go_num, HS2.out, HKK.out _, HB.out.setCell (Nat.le_refl _) _⟩
        case measure => simp [intOf]; omega
    · obtain rfl : m = 1024 := by omega
      have hfin : Rw wr w.heap.size 4 ((zw (fun x y => x && !y) L M).map Value.bool) := by
        rw [fB_congr _ _ (fun m => (fun x y => x && !y) (hit L m) (hit M m)) fun i hi => by rw [if_pos hi]] at hr
        rw [← zw_fB]
        exact hr
      have C3 := Lib.hid (rspans_all (zw (fun x y => x && !y) L M) (zw_len _ _ _) w.heap.size wr hfin)
      have hz := hb.size
      clear hr hd hb hfin
      go_wp2_with fail
      refine C3.out.mono ?_
      rintro e w4 ⟨A', c', rfl, hs, hb4⟩
      have HS := Lib.hid hs
      have HB4 := Lib.hid hb4
      clear hs hb4 C3
      go_wp2_with fail
      go_ret
      exact ⟨A', c', rfl, HS.out.keep fun i hi => ⟨⟨by omega, hi.2⟩, rfl⟩, HB.out.trans (HB4.out.mono (by omega))⟩
end Go.Proofs.Ytofjbplojhlnoaa
