/- Spans: the iterator over the longest runs. -/
import Derived.RangeFuncNested
import Derived.RangeFuncBound
import Derived.RangeFuncCalls
import Derived.RangeFuncLeaves
import Derived.RangeFuncBox
import Derived.Shelf.Abstract
import Derived.Shelf.RegionOpen
import Derived.OwnWalkIn
import Derived.TacticsInMore
import Derived.LoopNIn
import Derived.LoopIn
import Derived.Maps.AppendAt
import Derived.Test.YtofjbplojhlnoaaSD
namespace Go.Proofs.Ytofjbplojhlnoaa
open Go.RowKit Go.Shelf

attribute [local go_sem] Oper.semAt_some

theorem rn_len : ∀ (l : List Bool) (k : Nat), (rn k l).length ≤ l.length
  | [], k => by simp [rn]
  | false :: l, k => by
    have := rn_len l (k + 1)
    rw [rn_false, List.length_cons]
    omega
  | true :: l, k => by
    have := rn_len l (k + 1)
    rw [rn_true, List.length_cons]
    cases hr : rn (k + 1) l with
    | nil => simp
    | cons q r =>
      rw [hr] at this
      simp only [List.length_cons] at this
      simp only
      split <;> simp only [List.length_cons] <;> omega

def E2 (x : Sp) : Array Value := #[.agg #[.int .i64 x.1, .int .i64 x.2]]

set_option maxRecDepth 100000 in
set_option maxHeartbeats 2000000 in
theorem long1_in (n : Nat) (hn : 2 ≤ n) (l Bn g n₀ : Nat) (B : List Bool) (hB : B.length = 1024) (J Jx : List Sp → World → Prop)
    (hY : ∀ pre x W, J pre W → pre.length < (rn 0 B).length → YieldAt Fence.wide (n - 1) Try.prog l (E2 x) W fun e W' =>
      (e = .returned (.bool true) ∧ J (pre ++ [x]) W' ∧ Below n₀ W W') ∨ (e = .returned (.bool false) ∧ Jx (pre ++ [x]) W'))
    (W : World) (hbn : Bn < n₀) (hg : g < n₀) (hBn : W.cell? ⟨Bn, 0, none⟩ = some (.pointer (some ⟨g, 0, none⟩))) (hd : Rw W g 58 (B.map Value.bool)) (h0 : J [] W) :
    CallsIn Fence.wide n Try.prog 38 #[.func (.yield l) #[] #[], .pointer (some ⟨Bn, 0, none⟩)] W fun e W' => (∃ v, e = .returned v) ∧
      ((∃ ys, ys = rn 0 B ∧ J ys W') ∨ (∃ pre, pre <+: rn 0 B ∧ Jx pre W')) := by
  have HB := Lib.hid hB
  have HD := Lib.hid hd
  have HBN := Lib.hid hBn
  clear hd hB hBn
  refine callsIn_of_wp Try.func38 rfl trivial ?_ rfl
  simp only [Try.ntmps38, List.size_toArray, List.length_cons, List.length_nil, Nat.reduceAdd, Nat.reduceSub, Array.replicate_succ, Array.replicate_zero, List.push_toArray, List.append_toArray, List.nil_append, List.cons_append]
  gi_wp2
  gi_loopw [3] (fun x wr => ∃ (pre : List Sp) (k : Nat), x = .int .i64 k ∧ k ≤ 1024 ∧ Hid (rn 0 B = pre ++ rn k (B.drop k)) ∧ Hid (wr.cell? ⟨Bn, 0, none⟩ = some (.pointer (some ⟨g, 0, none⟩))) ∧ Hid (Rw wr g 58 (B.map Value.bool)) ∧ J pre wr)
    (fun x _ => 1024 - (intOf x).toNat)
  case atStart => exact ⟨[], 0, rfl, by omega, Lib.hid (by simp), HBN, HD, h0⟩
  case round =>
    obtain ⟨pre, k, rfl, hk, HX, HC, HR, hJ⟩ := hrel
    by_cases hlt : k < 1024
    · have hc := HC.out
      gi_wp2
      refine ⟨trivial, fun _ => (by omega), ?_⟩
      gi_at_call 39
      have CC := (callsIn_wide (n := n - 1)).2 (next_all B HB.out g k true wr hk HR.out)
      (with_reducible refine CC.mono ?_)
      clear CC
      rintro e w' ⟨⟨a, rfl, ha1, ha2, ha3, ha4⟩, hw'⟩
      rw [hw']
      clear hw' w'
      have C2 := Lib.hid (next_all B HB.out g a false wr ha2 HR.out)
      have HA3 := Lib.hid ha3
      have HA4 := Lib.hid ha4
      clear ha3 ha4
      gi_wp2
      refine ⟨trivial, fun _ => (by omega), ?_⟩
      gi_at_call 39
      have CC := (callsIn_wide (n := n - 1)).2 C2.out
      (with_reducible refine CC.mono ?_)
      clear CC
      rintro e w' ⟨⟨b, rfl, hb1, hb2, hb3, hb4⟩, hw'⟩
      rw [hw']
      clear hw' w'
      have HN := Lib.hid (rn_next B HB.out k a b ha1 hb1 hb2 HA3.out (by simpa using hb3) hb4)
      have HA5 := Lib.hid (show ¬ a < b → a = 1024 from fun h => by
        obtain rfl : a = b := by omega
        by_cases h2 : a < 1024
        · have e1 := HA4.out h2
          have e2 := hb4 h2
          rw [e1] at e2
          cases e2
        · omega)
      clear hb3 hb4 C2
      by_cases hab : a < b
      · have HX2 := Lib.hid (show rn 0 B = (pre ++ [((a : Int), (b : Int))]) ++ rn b (B.drop b) by rw [HX.out, HN.out, if_pos hab, List.append_assoc]; rfl)
        obtain ⟨fn, tmps, assign, body, hy, hR⟩ := hY pre ((a : Int), (b : Int)) wr hJ (by rw [HX2.out]; simp)
        unfold E2 at hy
        dsimp only at hy
        gi_wp2
        refine ⟨fun _ => (by omega), hR.mono ?_⟩
        rintro e W3 (⟨rfl, hJ3, hk3⟩ | ⟨rfl, hJx3⟩)
        · have HC3 := Lib.hid ((hk3.cell (p := ⟨Bn, 0, none⟩) hbn).trans HC.out)
          have HR3 := Lib.hid (HR.out.keep (hk3.block g hg))
          gi_wp2
          go_roundw
          case rel => exact ⟨pre ++ [((a : Int), (b : Int))], b, rfl, hb2, HX2, HC3, HR3, hJ3⟩
          case measure => simp [intOf]; omega
        · gi_wp2
          refine bodyPost_ret (results_none rfl _ _ _) rfl ?_
          exact ⟨⟨_, rfl⟩, .inr ⟨pre ++ [((a : Int), (b : Int))], ⟨_, HX2.out.symm⟩, hJx3⟩⟩
      · have HA := Lib.hid (HA5.out hab)
        gi_wp2
        refine ⟨fun _ h => (by cases h), ?_⟩
        gi_wp2
        go_roundw
        case rel => exact ⟨pre, b, rfl, hb2, Lib.hid (by
          obtain rfl : a = b := by omega
          rw [HX.out, HN.out, if_neg hab]), HC, HR, hJ⟩
        case measure => have := HA.out; simp [intOf]; omega
    · obtain rfl : k = 1024 := by omega
      gi_wp2
      go_end0
      exact ⟨⟨_, rfl⟩, .inl ⟨pre, by rw [HX.out, rn_end B HB.out, List.append_nil], hJ⟩⟩

set_option maxHeartbeats 1000000 in
theorem longest_all (g : Nat) (w : World) : Calls Try.prog 27 #[.pointer (some ⟨g, 0, none⟩)] w fun e w' => e = .returned (.func (.func 38) #[] #[.pointer (some ⟨w.heap.size, 0, none⟩)]) ∧ w' = w.alloc (.cells #[.pointer (some ⟨g, 0, none⟩)] 44) := by
  go_enter Try.func27, Try.ntmps27
  go_wp2_with fail
  go_ret
  exact ⟨rfl, rfl⟩

/-- the iterator hands over the runs in order -/
theorem long_stops (n : Nat) (hn : 2 ≤ n) (Bn g n₀ : Nat) (B : List Bool) (hB : B.length = 1024) (w : World) (hbn : Bn < n₀) (hg : g < n₀) (hn₀ : n₀ ≤ w.heap.size)
    (hBn : w.cell? ⟨Bn, 0, none⟩ = some (.pointer (some ⟨g, 0, none⟩))) (hd : Rw w g 58 (B.map Value.bool)) :
    SeqStopsK Fence.wide n Try.prog 38 #[.pointer (some ⟨Bn, 0, none⟩)] E2 (Below n₀) (fun ys => ys = rn 0 B) (fun pre => pre <+: rn 0 B) (rn 0 B).length w := fun l J Jx W hW _ _ hY h0 =>
  long1_in n hn l Bn g n₀ B hB J Jx hY W hbn hg ((hW.cell (p := ⟨Bn, 0, none⟩) (Nat.lt_of_lt_of_le hbn hn₀)).trans hBn) (hd.keep (hW.block g (Nat.lt_of_lt_of_le hg hn₀))) h0
end Go.Proofs.Ytofjbplojhlnoaa
