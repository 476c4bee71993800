/- Spans: Covers. -/
import Derived.Test.YtofjbplojhlnoaaSH
namespace Go.Proofs.Ytofjbplojhlnoaa
open Go.RowKit Go.Shelf

attribute [local go_sem] Oper.semAt_some

def wide (a b : Int) (p : Sp) : Bool := decide (p.1 ≤ a) && decide (b ≤ p.2)
def cov (L : List Sp) (s : Sp) : Bool := if s.2 ≤ s.1 then true else (nm L).any (wide s.1 s.2)
theorem res_cellB {fn : Func} {p : Tmp} (h : fn.results = #[.cell p 4]) (tmps : Array Value) (w : World) (g : Nat) (b : Bool)
    (hp : tmps.getD p undef = .pointer (some ⟨g, 0, none⟩)) (hg : w.cell? ⟨g, 0, none⟩ = some (.bool b)) : (results fn tmps).run Try.prog w = .ok (.bool b) w := by
  have hp' : tmps[p]?.getD undef = .pointer (some ⟨g, 0, none⟩) := by simpa using hp
  simp [results, h, hp', asAddr, go_sem, hg]

/-- between two rounds; a round that has returned -/
def CovI (s1 s2 : Int) (W3 : World) (pre : List Sp) (W : World) : Prop := Below W3.heap.size W3 W ∧ pre.any (wide s1 s2) = false
def CovX (s1 s2 : Int) (w : World) (c : Code) (pre : List Sp) (W : World) : Prop := ((c = .ret ∧ pre.any (wide s1 s2) = true) ∧ Boxed W (w.heap.size + 1) 4 (.bool true)) ∧ Below w.heap.size w W
set_option maxRecDepth 100000 in
set_option maxHeartbeats 2000000 in
theorem covers_in (n : Nat) (hn : 6 ≤ n) (L : List Sp) (A : Option Addr) (cap : Nat) (s1 s2 : Int) (hs : s1 < s2) (w : World) (hL : L.length ≤ 1000000) (hl : SL w (· < w.heap.size) L A cap) :
    CallsIn Fence.wide n Try.prog 23 #[.slice A L.length cap, .agg #[.int .i64 s1, .int .i64 s2]] w fun e W' => e = .returned (.bool ((nm L).any (wide s1 s2))) ∧ Below w.heap.size w W' := by
  have h1 : 1 ≤ n := by omega
  have HL := Lib.hid hl
  clear hl
  refine callsIn_of_wp_marks Try.func23 rfl trivial ?_ rfl
  simp only [Try.ntmps23, List.size_toArray, List.length_cons, List.length_nil, Nat.reduceAdd, Nat.reduceSub, Array.replicate_succ, Array.replicate_zero, List.push_toArray, List.append_toArray, List.nil_append, List.cons_append]
  have hb1 : Below w.heap.size w ((w.alloc (.cells #[.int .i64 s1, .int .i64 s2] 32)).alloc (.cells #[.bool false] 4)) := ((Below.refl _ _).alloc (Nat.le_refl _) _).alloc (by simp) _
  have hz1 : ((w.alloc (.cells #[.int .i64 s1, .int .i64 s2] 32)).alloc (.cells #[.bool false] 4)).heap.size = w.heap.size + 2 := by simp
  have bs : BoxS ((w.alloc (.cells #[.int .i64 s1, .int .i64 s2] 32)).alloc (.cells #[.bool false] 4)) w.heap.size (s1, s2) := (Below.heap_alloc _ _ _ (by simp)).trans (heap_alloc_new w _)
  have br : Boxed ((w.alloc (.cells #[.int .i64 s1, .int .i64 s2] 32)).alloc (.cells #[.bool false] 4)) (w.heap.size + 1) 4 (.bool false) := by
    have := Boxed.new (w.alloc (.cells #[.int .i64 s1, .int .i64 s2] 32)) 4 (.bool false)
    simpa using this
  have HBS := Lib.hid bs
  have HBR := Lib.hid br
  have HB1 := Lib.hid hb1
  have HZ1 := Lib.hid hz1
  have HL1 := Lib.hid (HL.out.keep (S' := (· < w.heap.size + 2)) fun i hi => ⟨by omega, hb1.block i hi⟩)
  clear bs br hb1 hz1
  gi_wp2
  generalize hW1 : (w.alloc _).alloc _ = W1
  rw [hW1] at HBS HBR HB1 HZ1 HL1
  clear hW1
  refine ⟨trivial, ?_⟩
  gi_at_call 26
  have CC := (callsIn_wide (n := n - 1)).2 (daysof_all L A cap W1 hL (HL1.out.keep fun i hi => ⟨by rw [HZ1.out]; exact hi, rfl⟩))
  (with_reducible refine CC.mono ?_)
  clear CC
  rintro e w2 ⟨g, rfl, hg, hd, hb2⟩
  have hgl := hd.lt
  have hz2 := hb2.size
  rw [HZ1.out] at hz2
  have HD := Lib.hid hd
  have HB2 := Lib.hid (HB1.out.trans (hb2.mono (by rw [HZ1.out]; omega)))
  have HBS2 := Lib.hid (show BoxS w2 w.heap.size (s1, s2) from (hb2.block _ (by rw [HZ1.out]; omega)).trans HBS.out)
  have HBR2 := Lib.hid (show Boxed w2 (w.heap.size + 1) 4 (.bool false) from (hb2.block _ (by rw [HZ1.out]; omega)).trans HBR.out)
  clear hd hb2 hg
  gi_wp2
  refine ⟨trivial, ?_⟩
  gi_at_call 27
  have CC := (callsIn_wide (n := n - 1)).2 (longest_all g w2)
  (with_reducible refine CC.mono ?_)
  clear CC
  rintro e w' ⟨rfl, hw'⟩
  rw [hw']
  clear hw' w'
  generalize hW3 : w2.alloc _ = W3
  have hb3 : Below w2.heap.size w2 W3 := by rw [← hW3]; exact (Below.refl _ _).alloc (Nat.le_refl _) _
  have hz3 : W3.heap.size = w2.heap.size + 1 := by rw [← hW3]; simp
  have hc3 : W3.cell? ⟨w2.heap.size, 0, none⟩ = some (.pointer (some ⟨g, 0, none⟩)) := by rw [← hW3]; exact cell_of_row _ w2.heap.size 0 _ _ _ (heap_alloc_new w2 _)
  have HC3 := Lib.hid hc3
  have HD3 := Lib.hid (HD.out.keep (hb3.block g hgl))
  have HBS3 := Lib.hid (show BoxS W3 w.heap.size (s1, s2) from (hb3.block _ (by omega)).trans HBS2.out)
  have HBR3 := Lib.hid (show Boxed W3 (w.heap.size + 1) 4 (.bool false) from (hb3.block _ (by omega)).trans HBR2.out)
  have HB3 := Lib.hid (HB2.out.trans (hb3.mono (by omega)))
  clear hc3 hb3 hW3
  gi_wp2
  have hz3' : w2.heap.size < W3.heap.size := by omega
  clear hz3
  refine wpIn_rangeFunc_ownH rfl h1 (gf := 38) (lb := #[.pointer (some ⟨w2.heap.size, 0, none⟩)]) rfl trivial (enters_of Try.func38 (by kernel_rfl) rfl)
    (long_stops (n - 1) (by omega) w2.heap.size g W3.heap.size (dy L) (dy_len L) W3 (by omega) (by omega) (Nat.le_refl _) HC3.out HD3.out) belowK_t (belowK_b (Nat.le_refl _)) (Below.refl _ _) (fun _ => rfl)
    (CovI s1 s2 W3) (CovX s1 s2 w)
    (fun s X Y row hs' hg hr => ⟨(ownFrom_below (β := List Sp) (Nat.le_refl _) (Nat.le_refl _)) s X Y row hs'.1 hg hr, hs'.2⟩)
    (fun c s X Y row hs' hg hr => ⟨⟨hs'.1.1, boxed_own _ _ (fun (_ : Unit) => Value.bool true) () X Y row hs'.1.2 hg (fun r e => (hr r e).2)⟩, (ownFrom_below (β := List Sp) (Nat.le_refl _) HB3.out.size) s X Y row hs'.2 hg hr⟩)
    ⟨Below.refl _ _, rfl⟩
    (fun x a' W => ∃ Bx, w.heap.size < Bx ∧ BoxS W Bx x ∧ a' = { tmps := #[.slice A L.length cap, .agg #[.int .i64 s1, .int .i64 s2], undef, .pointer (some ⟨w.heap.size, 0, none⟩), .pointer (some ⟨w.heap.size + 1, 0, none⟩), .pointer (some ⟨Bx, 0, none⟩), .pointer (some ⟨w.heap.size, 0, none⟩), .int .i64 s1, .pointer (some ⟨w.heap.size, 1, none⟩), .int .i64 s2, .bool (decide (s2 ≤ s1)), .slice A L.length cap, .pointer (some ⟨g, 0, none⟩), .func (.func 38) #[] #[.pointer (some ⟨w2.heap.size, 0, none⟩)], .agg #[.int .i64 x.1, .int .i64 x.2], undef, undef, undef, undef, undef, undef, undef, undef, undef, undef, undef, undef], defers := [] })
    (fun x a' _ X Y row hs' hg hr => by obtain ⟨Bx, h1, h2, h3⟩ := hs'; exact ⟨Bx, h1, boxs_own Bx (fun (_ : Unit) => x) () X Y row h2 hg (fun r e => (hr r e).2), h3⟩)
    ?assign ?body ?done ?stop
  case assign =>
    rintro l pre x W K ⟨hB1, hp⟩ hK
    have HP := Lib.hid hp
    clear hp
    have hsz := hB1.size
    unfold E2
    gi_wp2
    exact hK _ _ ((KeepsOthers.alloc _ _).from _) ((Below.refl _ W).alloc hB1.size _) ⟨hB1.alloc hB1.size _, HP.out⟩ ⟨W.heap.size, by omega, heap_alloc_new W _, rfl⟩
  case body =>
    rintro l pre x a' W hl _ ⟨hB1, hp⟩ ⟨Bx, hBx, bX, rfl⟩ hlt
    have HP := Lib.hid hp
    have HBB := Lib.hid hB1
    have hsz := hB1.size
    have c0 := bX.c0
    have c1 := bX.c1
    have bS : BoxS W w.heap.size (s1, s2) := (hB1.block _ (by omega)).trans HBS3.out
    have d0 := bS.c0
    have d1 := bS.c1
    have bR : Boxed W (w.heap.size + 1) 4 (.bool false) := (hB1.block _ (by omega)).trans HBR3.out
    have r0 := bR.cell
    have rf := bR.frozen
    have HR := Lib.hid bR
    simp only at d0 d1
    obtain ⟨x1, x2⟩ := x
    simp only at c0 c1
    clear hp hB1 bX bS bR
    by_cases h1 : x1 ≤ s1
    · by_cases h2 : s2 ≤ x2
      · gi_wp2
        exact ⟨(KeepsOthers.setCell _ _ _).from _, ⟨⟨rfl, by simp [wide, h1, h2]⟩, HR.out.set _⟩, (HB3.out.trans (HBB.out.mono (by omega))).setCell (by simp) _⟩
      · gi_wp2
        exact ⟨KeepsFrom.refl _ _, Below.refl _ _, HBB.out, by rw [List.any_append, HP.out]; simp [wide]; omega⟩
    · gi_wp2
      exact ⟨KeepsFrom.refl _ _, Below.refl _ _, HBB.out, by rw [List.any_append, HP.out]; simp [wide]; omega⟩
  case done =>
    rintro D ys W hD rfl ⟨hB1, hp⟩ hK
    have HP := Lib.hid hp
    have HBB := Lib.hid hB1
    have hsz := hB1.size
    have bR : Boxed W (w.heap.size + 1) 4 (.bool false) := (hB1.block _ (by omega)).trans HBR3.out
    have r0 := bR.cell
    have rf := bR.frozen
    have HR := Lib.hid bR
    clear hp hB1 bR
    gi_wp2
    have hK2 := (KeepsOthers.setCell W ⟨w.heap.size + 1, 0, none⟩ (.bool false)).same D _ hK rfl
    have b2 := ((HR.out.set (.bool false)).kept (grownBy_putObj' _ D (.deferred none)) (by simp; omega)).cell
    refine ⟨by simp, .inl ⟨_, _, rfl, run_takeDeferred hK2, ?_⟩⟩
    refine ⟨.bool false, res_cellB rfl _ _ (w.heap.size + 1) false rfl b2, ?_, ?_⟩
    · rw [show (nm L).any (wide s1 s2) = false from HP.out]
    · exact (HB3.out.trans ((HBB.out.mono (by omega)))).setCell (by simp) _ |>.trans (belowK_b (w := w) (Nat.le_refl _) _ D _ _ (by omega) hK2 rfl rfl)
  case stop =>
    rintro D c pre W hD hpre ⟨⟨⟨rfl, hp⟩, bR⟩, hBW⟩ hK
    have HP := Lib.hid hp
    have HR := Lib.hid bR
    have hz := HB3.out.size
    clear hp
    gi_wp2
    have b2 := (HR.out.kept (grownBy_putObj' _ D (.deferred none)) (by simp; omega)).cell
    refine ⟨by simp, .inl ⟨_, _, rfl, run_takeDeferred hK, ?_⟩⟩
    refine ⟨.bool true, res_cellB rfl _ _ (w.heap.size + 1) true rfl b2, ?_, ?_⟩
    · obtain ⟨p, hp, hw⟩ := List.any_eq_true.1 HP.out
      rw [show (nm L).any (wide s1 s2) = true from List.any_eq_true.2 ⟨p, hpre.subset hp, hw⟩]
    · exact hBW.trans (belowK_b (w := w) (Nat.le_refl _) _ D _ _ (by omega) hK rfl rfl)

set_option maxRecDepth 100000 in
set_option maxHeartbeats 1600000 in
theorem covers_all (L : List Sp) (A : Option Addr) (cap : Nat) (s1 s2 : Int) (w : World) (hL : L.length ≤ 1000000) (hl : SL w (· < w.heap.size) L A cap) :
    Calls Try.prog 23 #[.slice A L.length cap, .agg #[.int .i64 s1, .int .i64 s2]] w fun e W' => e = .returned (.bool (cov L (s1, s2))) ∧ Below w.heap.size w W' := by
  by_cases hs : s2 ≤ s1
  · have HV := Lib.hid (show cov L (s1, s2) = true by simp [cov, hs])
    have hb : Below w.heap.size w ((w.alloc (.cells #[.int .i64 s1, .int .i64 s2] 32)).alloc (.cells #[.bool true] 4)) := ((Below.refl _ _).alloc (Nat.le_refl _) _).alloc (by simp) _
    have hc : ((w.alloc (.cells #[.int .i64 s1, .int .i64 s2] 32)).alloc (.cells #[.bool true] 4)).cell? ⟨w.heap.size + 1, 0, none⟩ = some (.bool true) := by
      simp
    have HB := Lib.hid hb
    have HC := Lib.hid hc
    clear hb hc hl
    go_enter Try.func23, Try.ntmps23
    go_wp2_with fail
    exact bodyPost_ret (res_cellB rfl _ _ (w.heap.size + 1) true rfl HC.out) rfl ⟨ret_bool HV.out.symm, HB.out⟩
  · refine (callsIn_wide.1 (covers_in 6 (Nat.le_refl _) L A cap s1 s2 (by omega) w hL hl)).mono fun e w' ⟨he, hb⟩ => ⟨?_, hb⟩
    rw [he]
    exact ret_bool (by simp [cov, hs])
end Go.Proofs.Ytofjbplojhlnoaa
