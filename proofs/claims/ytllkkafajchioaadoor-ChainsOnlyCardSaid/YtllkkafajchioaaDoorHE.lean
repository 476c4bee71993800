/- Digest: each block. -/
import Derived.Test.YtllkkafajchioaaDoorHD
namespace Go.Proofs.YtllkkafajchioaaDoor
open Go.RowKit

/-- the state behind n blocks of l -/
def foldb (s : S8) (l : List UInt8) : Nat → S8
  | 0 => s
  | n + 1 => comp (foldb s l n) (wds (l.drop (n * 64)) 16)

abbrev give (sb : Nat) : Value := .func (.func 47) #[.pointer (some ⟨sb, 0, none⟩)] #[]

theorem enter_absorb (args : Array Value) (w : World) : (callFunc 47 args).run Tryd.prog w = .ok (.enter 47 args) w := by
  first | rfl | kernel_rfl | simp [go_sem]

theorem below_grownBy {w w' w'' : World} {sb : Nat} (h : w.grownBy w' (some sb)) (hb : Below w'.heap.size w' w'') : w.grownBy w'' (some sb) :=
  ⟨hb.os.trans h.os, hb.tape.trans h.tape, hb.output.trans h.output, Nat.le_trans h.size hb.size, fun k hk hne => (hb.block k (Nat.lt_of_lt_of_le hk h.size)).trans (h.block k hk hne)⟩
theorem grownBy_trans {w w' w'' : World} {sb : Nat} (h : w.grownBy w' (some sb)) (g : w'.grownBy w'' (some sb)) : w.grownBy w'' (some sb) :=
  ⟨g.os.trans h.os, g.tape.trans h.tape, g.output.trans h.output, Nat.le_trans h.size g.size, fun k hk hne => (g.block k (Nat.lt_of_lt_of_le hk h.size) hne).trans (h.block k hk hne)⟩
theorem grownBy_refl (w : World) (sb : Nat) : w.grownBy w (some sb) := ⟨rfl, rfl, rfl, Nat.le_refl _, fun _ _ _ => rfl⟩

set_option maxRecDepth 100000 in
set_option maxHeartbeats 1600000 in
theorem each_all (s : S8) (l : List UInt8) (A : Option Addr) (cap sb m : Nat) (w : World) (hm : l.length = m * 64) (hl : Byt w (fun i => i < w.heap.size ∧ i ≠ sb) l A cap) (hk : KR w Kt) (hs : Row w sb 66 s.l) (h0 : sb ≠ 0) :
    Calls Tryd.prog 46 #[.slice A l.length cap, give sb] w fun e w' => e = .returned (.tuple #[]) ∧ Row w' sb 66 (foldb s l m).l ∧ w.grownBy w' (some sb) := by
  have hlt := hs.lt
  have hlt0 := hk.lt
  have hcap := hl.1
  have hcm : cap ≤ 9223372036854775807 := hl.2.1
  have HK := Lib.hid hk
  have HS := Lib.hid hs
  have HL := Lib.hid hl
  have HM := Lib.hid hm
  clear hk hs hl hm
  go_enter Tryd.func46, Tryd.ntmps46
  go_wp2_with fail
  go_loopw [4] (fun x wr => ∃ n k : Nat, k = n * 64 ∧ x = .int .i64 k ∧ n ≤ m ∧ Row wr sb 66 (foldb s l n).l ∧ w.grownBy wr (some sb)) (fun x _ => l.length - (intOf x).toNat)
  case atStart => exact ⟨0, 0, rfl, rfl, by omega, HS.out, grownBy_refl _ _⟩
  case round =>
    obtain ⟨n, k, hkn, rfl, hn, hrow, hg⟩ := hrel
    have hln := HM.out
    have HKN := Lib.hid hkn
    have HROW := Lib.hid hrow
    have HG := Lib.hid hg
    by_cases hlt : n < m
    · have hkl : k + 64 ≤ l.length := by omega
      obtain ⟨g, o, rfl, hS, _⟩ := HL.out.2.2.2 (by omega)
      have hby : Byt wr (· < wr.heap.size) (l.drop k) (some ⟨g, o + k, none⟩) (cap - k) :=
        (HL.out.keep (S' := (· < wr.heap.size)) fun i hi => ⟨by have := hg.size; omega, hg.block i hi.1 (by intro e; injection e with e; omega)⟩).drop k
      have C := Lib.hid (words_all (l.drop k) g (o + k) (cap - k) wr (by rw [List.length_drop]; omega) hby)
      rw [List.length_drop] at C
      clear hby hrow hg hln hkn hS
      go_wp2_with fail
      refine C.out.mono ?_
      rintro e w1 ⟨rfl, hb⟩
      have hg1 := below_grownBy HG.out hb
      have hk1 : KR w1 Kt := HK.out.keep (hg1.block 0 hlt0 (by intro e; injection e with e; omega))
      have hs1 : Row w1 sb 66 (foldb s l n).l := HROW.out.keep (hb.block sb HROW.out.lt)
      have C2 := Lib.hid (absorb_all (foldb s l n) (wds (l.drop k) 16) sb w1 (wds_len _ _) hk1 hs1 h0)
      have HG1 := Lib.hid hg1
      clear hb hg1 hk1 hs1 C
      have hef := enter_absorb
      go_wp2_with fail
      refine C2.out.mono ?_
      rintro e w2 ⟨rfl, hs2, hg2⟩
      have HS2 := Lib.hid hs2
      have HG2 := Lib.hid (grownBy_trans HG1.out hg2)
      clear hs2 hg2 C2
      go_wp2_with fail
      go_roundw
      case rel =>
        exact ⟨n + 1, k + 64, by rw [HKN.out]; omega, rfl, by omega, by rw [foldb, ← HKN.out]; exact HS2.out, HG2.out⟩
      case measure => simp [intOf]; omega
    · obtain rfl : n = m := by omega
      have hkl : k = l.length := by omega
      clear hrow hg hln hkn
      have hf : ¬ (k : Int) < l.length := by omega
      clear hkl
      go_wp2_with fail
      go_end0
      exact ⟨rfl, HROW.out, HG.out⟩
end Go.Proofs.YtllkkafajchioaaDoor
