/- Spans: daysOf. -/
import Derived.Test.YtofjbplojhlnoaaSB
namespace Go.Proofs.Ytofjbplojhlnoaa
open Go.RowKit

theorem run_alloc_big (w : World) (t : TypeId) (cs : List Value) (h : (Try.prog.info? t).map (fun i => i.zero) = some (some (.agg cs.toArray))) :
    (Instr.alloc t true (.tuple #[])).run Try.prog w = .ok (.pointer (some ⟨w.heap.size, 0, none⟩)) (w.alloc (.cells cs.toArray t)) := by
  cases hq : Try.prog.info? t with
  | none => rw [hq] at h; cases h
  | some i =>
    have hz : i.zero = some (.agg cs.toArray) := by rw [hq] at h; simpa using h
    simp [Instr.alloc, zeroValue, typeInfo, hq, hz, newVar, newRow, Value.cells]
/-- a new variable of many cells -/
theorem alloc_rw {ops : Array Oper} {rest : List Oper} {o : Oper} {a : Act} {w : World} {Q : Exit → Act → World → Prop} (hgd : o.guard = none) (t : TypeId) (cs : List Value) (ho : o.op = .alloc t)
    (h : (Try.prog.info? t).map (fun i => i.zero) = some (some (.agg cs.toArray)))
    (hK : ∀ W1, Rw W1 w.heap.size t cs → Below w.heap.size w W1 → W1.heap.size = w.heap.size + 1 → wpList Try.prog ops Q rest (a.put o.dst (.pointer (some ⟨w.heap.size, 0, none⟩))) W1) : wpList Try.prog ops Q (o :: rest) a w :=
  wpList_plain hgd fun K hK' => by
    have hr := run_alloc_big w t cs h
    have := hK' _ _ (hK (w.alloc (.cells cs.toArray t)) (heap_alloc_new w _) ((Below.refl _ _).alloc (Nat.le_refl _) _) (by simp))
    unfold Oper.wp execOp
    simp only [ho]
    simp [hr]
    exact this
theorem zero55 : (Try.prog.info? 55).map (fun i => i.zero) = some (some (.agg (fI 1025 fun _ => 0).toArray)) := by kernel_rfl
theorem zero58 : (Try.prog.info? 58).map (fun i => i.zero) = some (some (.agg (fB 1024 fun _ => false).toArray)) := by kernel_rfl

theorem below_drewN {B : Nat} {a w : World} (h : Below B a w) (n : Nat) : Below B a (w.drewN n) := ⟨h.os, h.tape, h.output, h.size, h.block⟩

theorem ch_take (L : List Sp) (k : Nat) (p : Sp) (h : L[k]? = some p) (i : Nat) : ch (L.take (k + 1)) i = ch (L.take k) i + one p i := by
  obtain ⟨hk, e⟩ := List.getElem?_eq_some_iff.1 h
  rw [List.take_succ_eq_append_getElem hk, e, ch_snoc]
theorem ch_not (M : List Sp) (p : Sp) (i : Nat) (h : ¬ clN p.1 < clN p.2) : ch M i + one p i = ch M i := by
  have a := clN_cl p.1
  have b := clN_cl p.2
  unfold one
  rw [if_neg (by omega)]
  omega
theorem ch_yes (M : List Sp) (p : Sp) (h : clN p.1 < clN p.2) (i : Nat) :
    (if i = clN p.2 then ch M (clN p.2) - 1 else if i = clN p.1 then ch M (clN p.1) + 1 else ch M i) = ch M i + one p i := by
  have a := clN_cl p.1
  have b := clN_cl p.2
  have hc : one p i = (if cl p.1 = i then 1 else 0) - (if cl p.2 = i then 1 else 0) := by unfold one; rw [if_pos (by omega)]
  rw [hc, ← a, ← b]
  by_cases h1 : i = clN p.2
  · rw [if_pos h1, if_neg (show ¬ ((clN p.1 : Nat) : Int) = i by omega), if_pos (show ((clN p.2 : Nat) : Int) = i by omega), h1]
    omega
  · rw [if_neg h1, if_neg (show ¬ ((clN p.2 : Nat) : Int) = i by omega)]
    by_cases h2 : i = clN p.1
    · rw [if_pos h2, if_pos (show ((clN p.1 : Nat) : Int) = i by omega), h2]
      omega
    · rw [if_neg h2, if_neg (show ¬ ((clN p.1 : Nat) : Int) = i by omega)]
      omega

set_option maxRecDepth 100000 in
set_option maxHeartbeats 1600000 in
theorem daysof_all (L : List Sp) (A : Option Addr) (cap : Nat) (w : World) (hL : L.length ≤ 1000000) (hl : SL w (· < w.heap.size) L A cap) :
    Calls Try.prog 26 #[.slice A L.length cap] w fun e w' => ∃ g, e = .returned (.pointer (some ⟨g, 0, none⟩)) ∧ w.heap.size ≤ g ∧ Rw w' g 58 ((dy L).map Value.bool) ∧ Below w.heap.size w w' := by
  have HL := Lib.hid hl
  have hcap := hl.1
  have hcm : cap ≤ 9223372036854775807 := hl.2.1
  clear hl
  go_enter Try.func26, Try.ntmps26
  go_wp2_with (refine alloc_rw rfl 55 _ rfl zero55 ?_; intro W1 h1 hb1 hz1; have H1 := Lib.hid h1; have HB1 := Lib.hid hb1; have HZ1 := Lib.hid hz1; clear h1 hb1 hz1)
  go_loopw [13] (fun x wr => ∃ k : Nat, k ≤ L.length ∧ x = .int .i64 k ∧ Rw wr w.heap.size 55 (fI 1025 fun i => ch (L.take k) i) ∧ Below w.heap.size w wr) (fun x _ => L.length - (intOf x).toNat)
  case atStart => exact ⟨0, Nat.zero_le _, rfl, by have := H1.out; simpa [ch] using this, HB1.out⟩
  case round =>
    obtain ⟨k, hk, rfl, hr, hb⟩ := hrel
    have HR := Lib.hid hr
    have HB := Lib.hid hb
    have hz := hb.size
    have hlt' := hr.lt
    by_cases hlt : k < L.length
    · obtain ⟨p, hp⟩ : ∃ p, L[k]? = some p := ⟨_, List.getElem?_eq_getElem hlt⟩
      obtain ⟨b, o, rfl, hS, hc⟩ := HL.out.2.2.2 (by omega)
      obtain ⟨hc1, hc2⟩ := hc k p hp
      have q1 := (World.cell?_of_block (hb.block b hS)).trans hc1
      have q2 := (World.cell?_of_block (hb.block b hS)).trans hc2
      have HT := Lib.hid (ch_take L k p hp)
      have bf := clN_le p.1
      have bt := clN_le p.2
      have cf := ch_bd (clN p.1) (L.take k)
      have ct := ch_bd (clN p.2) (L.take k)
      have hlk : (L.take k).length ≤ 1000000 := by rw [List.length_take]; omega
      obtain ⟨p1, p2⟩ := p
      have c1 := hr.cell (fI_at 1025 (fun i => ch (L.take k) i) (clN p1) (by simp at bf; omega))
      have c2 := hr.cell (fI_at 1025 (fun i => ch (L.take k) i) (clN p2) (by simp at bt; omega))
      have f1 := hr.frozen (clN p1)
      have f2 := hr.frozen (clN p2)
      simp only at cf ct bf bt c1 c2
      have HN := Lib.hid (fun h => ch_not (L.take k) (p1, p2) · h)
      have HY := Lib.hid (fun h => ch_yes (L.take k) (p1, p2) h)
      clear hr hb hp hc hc1 hc2
      go_wp2_with fail
      go_quiet ((go_at_call 37; exact Calls.quiet_of_same (inCal_all _ _)))
      by_cases hft : clN p1 < clN p2
      · have hne : ¬ clN p1 = clN p2 := by omega
        have hne' : ¬ clN p2 = clN p1 := by omega
        go_wp2_with fail
        go_roundw
        case rel =>
          refine ⟨k + 1, by omega, by go_num, ?_, ((below_drewN (HB.out.alloc hz _) nq).setCell (Nat.le_refl _) _).setCell (Nat.le_refl _) _⟩
          have h0 : Rw ((wr.alloc (.cells #[.int .i64 p1, .int .i64 p2] 32)).drewN nq) w.heap.size 55 (fI 1025 fun i => ch (L.take k) i) := HR.out.keep (Below.heap_alloc _ _ _ HR.out.lt)
          have h1 := (h0.set (clN p1) (.int .i64 (ch (L.take k) (clN p1) + 1))).set (clN p2) (.int .i64 (ch (L.take k) (clN p2) - 1))
          rw [fI_set, fI_set] at h1
          rw [fI_congr _ _ _ fun i _ => (HT.out i).trans (HY.out hft i).symm]
          exact h1
        case measure => simp [intOf]; omega
      · go_wp2_with fail
        go_roundw
        case rel =>
          refine ⟨k + 1, by omega, by go_num, ?_, below_drewN (HB.out.alloc hz _) nq⟩
          rw [fI_congr _ _ _ fun i _ => (HT.out i).trans (HN.out i hft)]
          exact HR.out.keep (Below.heap_alloc _ _ _ HR.out.lt)
        case measure => simp [intOf]; omega
    · obtain rfl : k = L.length := by omega
      rw [List.take_length] at HR
      obtain ⟨wo, rfl⟩ : ∃ wo : World, wo = wr := ⟨_, rfl⟩
      clear hr hb
      go_wp2_with (refine alloc_rw rfl 58 _ rfl zero58 ?_; intro W2 h2 hb2 hz2; have H2 := Lib.hid h2; have HB2 := Lib.hid hb2; have HZ2 := Lib.hid hz2; clear h2 hb2 hz2)
      go_loopw [9, 37] (fun y x wq => ∃ n : Nat, n ≤ 1024 ∧ y = .int .i64 (ar L n) ∧ x = .int .i64 n ∧ Rw wq w.heap.size 55 (fI 1025 fun i => ch L i) ∧ Rw wq wo.heap.size 58 (fB 1024 fun m => decide (m < n) && hit L m) ∧ Below w.heap.size w wq) (fun _ x _ => 1024 - (intOf x).toNat)
      case atStart => exact ⟨0, by omega, by rw [ar_zero], rfl, HR.out.keep (HB2.out.block _ hlt'), by have := H2.out; simpa using this, HB.out.trans (HB2.out.mono hz)⟩
      case round =>
        obtain ⟨n, hn, rfl, rfl, hr, hd, hb⟩ := hrel
        have HR2 := Lib.hid hr
        have HD2 := Lib.hid hd
        have HBB := Lib.hid hb
        have hne : ¬ w.heap.size = wo.heap.size := by omega
        have hne' : ¬ wo.heap.size = w.heap.size := by omega
        have ha := ar_bd n L
        have hc := ch_bd n L
        by_cases hn2 : n < 1024
        · have c1 := hr.cell (fI_at 1025 (fun i => ch L i) n (by omega))
          have d1 := hd.cell (fB_at 1024 (fun m => decide (m < n) && hit L m) n hn2)
          have f1 := hd.frozen n
          have HS := Lib.hid (ar_succ n L)
          have HH := Lib.hid (ar_hit n hn2 L)
          clear hr hd hb
          go_wp2_with fail
          go_roundw
          case rel =>
            refine ⟨n + 1, by omega, by rw [HS.out], by go_num, ?_, ?_, HBB.out.setCell hz _⟩
            · exact HR2.out.keep (Below.heap_setCell _ _ _ _ (by simpa using hne))
            · have h1 := HD2.out.set n (.bool (hit L n))
              rw [fB_set] at h1
              rw [fB_congr _ _ _ fun i _ => show _ = (if i = n then hit L n else (decide (i < n) && hit L i)) from by
                by_cases hi : i = n
                · subst hi; simp
                · rw [if_neg hi]
                  by_cases h2 : i < n
                  · simp [h2, show i < n + 1 by omega]
                  · simp [h2, show ¬ i < n + 1 by omega]]
              rw [← HH.out, HS.out] at h1
              rw [← HH.out, HS.out]
              exact h1
          case measure => simp [intOf]; omega
        · obtain rfl : n = 1024 := by omega
          clear hr hd hb
          go_wp2_with fail
          go_ret
          refine ⟨wo.heap.size, rfl, hz, ?_, HBB.out⟩
          have h1 := HD2.out
          rw [fB_congr _ _ (fun m => hit L m) fun i hi => by simp [hi], fB_days] at h1
          exact h1
end Go.Proofs.Ytofjbplojhlnoaa
