/- Codec: Check, and the guard of the statements. -/
import Derived.Test.YtomiacedailmaaaCD
namespace Go.Proofs.Ytomiacedailmaaa
open Go.RowKit

def V.chk (v : V) : Int := if v.wf then (if 16 < v.depth then 2 else 0) else 1

set_option maxHeartbeats 400000 in
theorem check_all (v : V) (B : Nat) (A : Option Addr) (cap : Nat) (w : World) (hv : RdV w (· < B) v A cap) (hB : B ≤ w.heap.size) (hd : v.depth ≤ 4611686018427387904) :
    Calls Try.prog 16 #[v.val A cap] w fun e w' => e = .returned (.int .i64 v.chk) ∧ Below w.heap.size w w' := by
  have hb0 : Below w.heap.size w (w.alloc (.cells #[.int .i64 v.k, .int .i64 v.n, .string v.s, .slice A v.l.len cap] 24)) := (Below.refl _ _).alloc (Nat.le_refl _) _
  have C := Lib.hid (wellFormed_all v B A cap (w.alloc (.cells #[.int .i64 v.k, .int .i64 v.n, .string v.s, .slice A v.l.len cap] 24)) (hv.below (hb0.mono hB)) (by simp; omega))
  go_enter Try.func16, Try.ntmps16
  go_wp2_with fail
  refine C.out.mono ?_
  rintro e w' ⟨rfl, hb⟩
  have hs := hb.size
  simp only [World.size_alloc] at hs
  have c0 : w'.cell? ⟨w.heap.size, 0, none⟩ = some (.int .i64 v.k) := box_kept (hb.mono (by simp)) 0
  have c1 : w'.cell? ⟨w.heap.size, 1, none⟩ = some (.int .i64 v.n) := box_kept (hb.mono (by simp)) 1
  have c2 : w'.cell? ⟨w.heap.size, 2, none⟩ = some (.string v.s) := box_kept (hb.mono (by simp)) 2
  have c3 : w'.cell? ⟨w.heap.size, 3, none⟩ = some (.slice A v.l.len cap) := box_kept (hb.mono (by simp)) 3
  have hb1 : Below w.heap.size w w' := below_box (hb.mono (by simp))
  clear C hb0
  by_cases hw : v.wf = true
  · have HW := Lib.hid hw
    have D := Lib.hid (depth_all v B A cap w' (hv.below (hb1.mono hB)) (by omega) hd)
    clear hv hb
    go_wp2_with fail
    refine D.out.mono ?_
    rintro e w2 ⟨rfl, hb2⟩
    have hb3 : Below w.heap.size w w2 := hb1.trans (hb2.mono (by omega))
    clear hb1 hb2 c0 c1 c2 c3
    by_cases h16 : 16 < v.depth
    all_goals
      go_wp2
      go_ret
      refine ⟨ret_int ?_, hb3⟩
      simp [V.chk, HW.out, h16]
  · have hw' : v.wf = false := by simpa using hw
    have HW := Lib.hid hw'
    clear hw
    go_wp2
    go_ret
    exact ⟨ret_int (by simp [V.chk, HW.out]), hb1⟩

set_option maxHeartbeats 400000 in
theorem rcheck_all (v : V) (B : Nat) (A : Option Addr) (cap : Nat) (w : World) (hv : RdV w (· < B) v A cap) (hB : B ≤ w.heap.size) (hd : v.depth ≤ 4611686018427387904) :
    Calls Try.prog 17 #[v.val A cap] w fun e w' => e = .returned (.int .i64 v.chk) ∧ Below w.heap.size w w' := by
  have hb0 : Below w.heap.size w (w.alloc (.cells #[.int .i64 v.k, .int .i64 v.n, .string v.s, .slice A v.l.len cap] 24)) := (Below.refl _ _).alloc (Nat.le_refl _) _
  have C := Lib.hid (formed_all v B A cap (w.alloc (.cells #[.int .i64 v.k, .int .i64 v.n, .string v.s, .slice A v.l.len cap] 24)) (hv.below (hb0.mono hB)) (by simp; omega))
  go_enter Try.func17, Try.ntmps17
  go_wp2_with fail
  refine C.out.mono ?_
  rintro e w' ⟨rfl, hb⟩
  have hs := hb.size
  simp only [World.size_alloc] at hs
  have c0 : w'.cell? ⟨w.heap.size, 0, none⟩ = some (.int .i64 v.k) := box_kept (hb.mono (by simp)) 0
  have c1 : w'.cell? ⟨w.heap.size, 1, none⟩ = some (.int .i64 v.n) := box_kept (hb.mono (by simp)) 1
  have c2 : w'.cell? ⟨w.heap.size, 2, none⟩ = some (.string v.s) := box_kept (hb.mono (by simp)) 2
  have c3 : w'.cell? ⟨w.heap.size, 3, none⟩ = some (.slice A v.l.len cap) := box_kept (hb.mono (by simp)) 3
  have hb1 : Below w.heap.size w w' := below_box (hb.mono (by simp))
  clear C hb0
  by_cases hw : v.wf = true
  · have HW := Lib.hid hw
    have D := Lib.hid (rdepth_all v B A cap w' (hv.below (hb1.mono hB)) (by omega) hd)
    clear hv hb
    go_wp2_with fail
    refine D.out.mono ?_
    rintro e w2 ⟨rfl, hb2⟩
    have hb3 : Below w.heap.size w w2 := hb1.trans (hb2.mono (by omega))
    clear hb1 hb2 c0 c1 c2 c3
    by_cases h16 : 16 < v.depth
    all_goals
      go_wp2
      go_ret
      refine ⟨ret_int ?_, hb3⟩
      simp [V.chk, HW.out, h16]
  · have hw' : v.wf = false := by simpa using hw
    have HW := Lib.hid hw'
    clear hw
    go_wp2
    go_ret
    exact ⟨ret_int (by simp [V.chk, HW.out]), hb1⟩

/-- the parts of a value, as the statements' guard counts them -/
def cnt : Nat → V → Nat
  | 0, _ => 1000
  | g + 1, v => if 150 < v.l.len then 1000 else v.l.toList.foldl (fun n u => if n ≤ 1000 then n + cnt g u else n) (1 + v.s.size / 200)
def cstep (g n : Nat) (u : V) : Nat := if n ≤ 1000 then n + cnt g u else n
theorem cstep_big (g n : Nat) (h : ¬ n ≤ 1000) (l : List V) : l.foldl (cstep g) n = n := by
  induction l with
  | nil => rfl
  | cons u r ih => simp [cstep, h, ih]
theorem cnt_succ (g : Nat) (v : V) (h : ¬ 150 < v.l.len) : cnt (g + 1) v = v.l.toList.foldl (cstep g) (1 + v.s.size / 200) := by
  rw [cnt, if_neg h]; rfl

set_option maxRecDepth 100000 in
set_option maxHeartbeats 800000 in
theorem count_all (g : Nat) : ∀ (v : V) (B : Nat) (A : Option Addr) (cap : Nat) (w : World) (d : Int), RdV w (· < B) v A cap → B ≤ w.heap.size → g ≤ 21 → d = (g : Int) - 1 →
    Calls Try.prog 41 #[v.val A cap, .int .i64 d] w fun e w' => e = .returned (.int .i64 (cnt g v)) ∧ Below w.heap.size w w' ∧ cnt g v ≤ 46116860184273880 + 1000 * g := by
  induction g with
  | zero =>
    intro v B A cap w d hv hB hg hd
    have hd2 : d < 0 := by omega
    have hb0 : Below w.heap.size w (w.alloc (.cells #[.int .i64 v.k, .int .i64 v.n, .string v.s, .slice A v.l.len cap] 24)) := (Below.refl _ _).alloc (Nat.le_refl _) _
    clear hd
    go_enter Try.func41, Try.ntmps41
    go_wp2_with fail
    go_ret
    exact ⟨rfl, hb0, by simp [cnt]⟩
  | succ g ih =>
    intro v B A cap w d hv hB hg hd
    have hd2 : 0 ≤ d := by omega
    have hd3 : d ≤ 20 := by omega
    have hd4 : Hid (d - 1 = (g : Int) - 1) := by show d - 1 = _; omega
    clear hd
    have hb0 : Below w.heap.size w (w.alloc (.cells #[.int .i64 v.k, .int .i64 v.n, .string v.s, .slice A v.l.len cap] 24)) := (Below.refl _ _).alloc (Nat.le_refl _) _
    have hs := hv.1.2.2.2.2
    have hm := hv.2.2.1
    have hm2 := hv.2.1
    unfold maxLen at hm hs
    have IH := Lib.hid ih
    clear ih
    by_cases hbig : 150 < v.l.len
    · go_enter Try.func41, Try.ntmps41
      go_wp2_with fail
      go_ret
      exact ⟨ret_int (by rw [cnt, if_pos hbig]; rfl), hb0, by rw [cnt, if_pos hbig]; omega⟩
    · have hc := cnt_succ g v hbig
      have HC := Lib.hid hc
      clear hc
      have hdb : decide (d < 0) = false := by simp; omega
      have hlb : decide (150 < (v.l.len : Int)) = false := by simp; omega
      go_enter Try.func41, Try.ntmps41
      go_wp2_with fail
      go_loopw [5, 6] (fun m i wr => ∃ k n : Nat, k ≤ v.l.len ∧ i = .int .i64 k ∧ Below (w.heap.size + 1) (w.alloc (.cells #[.int .i64 v.k, .int .i64 v.n, .string v.s, .slice A v.l.len cap] 24)) wr ∧
          m = .int .i64 n ∧ n ≤ 46116860184273880 + 1000 * (g + 1) ∧ n = (v.l.toList.take k).foldl (cstep g) (1 + v.s.size / 200)) (fun _ i _ => v.l.len - (intOf i).toNat)
      case atStart => exact ⟨0, 1 + v.s.size / 200, Nat.zero_le _, rfl, Below.refl _ _, by simp, by omega, rfl⟩
      case round =>
        obtain ⟨k, n, hk, rfl, hb, rfl, hn, hf⟩ := hrel
        have HF := Lib.hid hf
        clear hf
        have hb1 := below_box hb
        have hbox : wr.cell? ⟨w.heap.size, 3, none⟩ = some (.slice A v.l.len cap) := box_kept hb 3
        by_cases hlt : k < v.l.len
        · by_cases h1000 : n ≤ 1000
          · have hlr : Sl wr (· < B) v.l A cap := hv.2.below (hb1.mono hB)
            obtain ⟨b, o, u, A', cap', rfl, hS, hu, hrd, h0, h1, h2, h3'⟩ := hlr.at_ hlt
            have HU := Lib.hid hu
            clear hu
            have C := Lib.hid (IH.out u B A' cap' wr (d - 1) hrd (Nat.le_trans hB hb1.size) (by omega) hd4.out)
            go_wp2_with fail
            refine C.out.mono ?_
            rintro e w' ⟨rfl, hb3, hcn⟩
            have hb4 := hb.trans (hb3.mono (by have := hb.size; simpa using this))
            clear hb hb1 hb3
            go_wp2
            go_roundw
            case rel =>
              refine ⟨k + 1, n + cnt g u, by omega, by go_num, hb4, by go_num, by omega, ?_⟩
              rw [take_at HU.out, List.foldl_append, ← HF.out]
              simp [cstep, h1000]
            case measure => simp [intOf]; omega
          · go_wp2
            go_ret
            have e : cnt (g + 1) v = n := by
              rw [HC.out, ← List.take_append_drop k v.l.toList, List.foldl_append, ← HF.out, cstep_big g n h1000]
            exact ⟨ret_int (by rw [e]), hb1, by rw [e]; omega⟩
        · obtain rfl : k = v.l.len := by omega
          have e : cnt (g + 1) v = n := by
            rw [HC.out, HF.out, List.take_of_length_le (by rw [F.len_toList]; exact Nat.le_refl _)]
          have E := Lib.hid e
          clear e
          go_wp2
          go_ret
          exact ⟨ret_int (by rw [E.out]), hb1, by rw [E.out]; omega⟩
end Go.Proofs.Ytomiacedailmaaa
