/- Codec: the reference's Encode and Size. -/
import Derived.Test.YtomiacedailmaaaCM
namespace Go.Proofs.Ytomiacedailmaaa
open Go.RowKit

theorem enc_pos (v : V) : 0 < v.enc.length := by
  unfold V.enc enc1
  split
  · simp
  · split <;> simp

theorem rencode_all (v : V) : ∀ (A : Option Addr) (cap B : Nat) (w : World), RdV w (· < B) v A cap → B ≤ w.heap.size → v.enc.length < 1099511627776 →
    Calls Try.prog 29 #[v.val A cap] w fun e w' => ∃ bv, e = .returned bv ∧ Own w' w.heap.size bv v.enc ∧ Below w.heap.size w w' := by
  refine V.ind (P := fun v => ∀ (A : Option Addr) (cap B : Nat) (w : World), RdV w (· < B) v A cap → B ≤ w.heap.size → v.enc.length < 1099511627776 →
    Calls Try.prog 29 #[v.val A cap] w fun e w' => ∃ bv, e = .returned bv ∧ Own w' w.heap.size bv v.enc ∧ Below w.heap.size w w') (fun v ih => ?_) v
  intro A cap B w hv hB hl
  have hf := hv.1
  unfold Fits at hf
  by_cases h1 : v.k = 1
  · exact rencode_int v A cap w h1 hf.2.2.1 hf.2.2.2.1
  · by_cases h2 : v.k = 2
    · refine rencode_text v A cap w h2 ?_
      have e : v.enc = [2] ++ (numf 10 v.s.size ++ v.s.data.toList) := by simp [V.enc, enc1, h2]
      have el : v.s.size ≤ v.enc.length := by rw [e]; simp only [List.length_append, Array.length_toList]; have : v.s.data.size = v.s.size := rfl; omega
      omega
    · exact rencode_list v A cap B w h1 h2 hv hB hl (fun u hu A cap w hr hB hl => ih u hu A cap B w hr hB hl) (fun u _ => enc_pos u)

set_option maxRecDepth 100000 in
set_option maxHeartbeats 800000 in
theorem rEncode_all (v : V) (B : Nat) (A : Option Addr) (cap : Nat) (w : World) (hv : RdV w (· < B) v A cap) (hB : B ≤ w.heap.size) (hd : v.depth ≤ 4611686018427387904) (hl : v.enc.length + 20 < 1099511627776) :
    Calls Try.prog 13 #[v.val A cap] w fun e w' => ∃ bv, e = .returned (.tuple #[bv, .int .i64 v.chk]) ∧ Own w' w.heap.size bv v.out ∧ Below w.heap.size w w' := by
  have hb0 : Below w.heap.size w (w.alloc (.cells #[.int .i64 v.k, .int .i64 v.n, .string v.s, .slice A v.l.len cap] 24)) := (Below.refl _ _).alloc (Nat.le_refl _) _
  have C := Lib.hid (rcheck_all v B A cap (w.alloc (.cells #[.int .i64 v.k, .int .i64 v.n, .string v.s, .slice A v.l.len cap] 24)) (hv.below (hb0.mono hB)) (by simp; omega) hd)
  go_enter Try.func13, Try.ntmps13
  go_wp2_with fail
  refine C.out.mono ?_
  rintro e w' ⟨rfl, hb⟩
  have hs := hb.size
  simp only [World.size_alloc] at hs
  have c0 : w'.cell? ⟨w.heap.size, 0, none⟩ = some (.int .i64 v.k) := box_kept (hb.mono (by simp)) 0
  have c1 : w'.cell? ⟨w.heap.size, 1, none⟩ = some (.int .i64 v.n) := box_kept (hb.mono (by simp)) 1
  have c2 : w'.cell? ⟨w.heap.size, 2, none⟩ = some (.string v.s) := box_kept (hb.mono (by simp)) 2
  have c3 : w'.cell? ⟨w.heap.size, 3, none⟩ = some (.slice A v.l.len cap) := box_kept (hb.mono (by simp)) 3
  have hb1 : Below w.heap.size w w' := below_box (hb.mono (by simp))
  clear C hb0 hb
  by_cases hc : v.chk = 0
  · have HW : Hid (v.out = v.enc) := by show v.out = v.enc; simp [V.out, hc]
    have HC := Lib.hid hc
    have D := Lib.hid (rencode_all v A cap B w' (hv.below (hb1.mono hB)) (by omega) (by omega))
    have hcb : (v.chk != 0) = false := by simpa using hc
    clear hv
    go_wp2_with fail
    refine D.out.mono ?_
    rintro e w2 ⟨bv, rfl, ho, hb2⟩
    have HO := Lib.hid (ho.base hs)
    have hb3 : Below w.heap.size w w2 := hb1.trans (hb2.mono (by omega))
    clear ho hb1 hb2 c0 c1 c2 c3
    go_wp2
    go_ret2
    refine ⟨bv, ?_, ?_, hb3⟩
    · rw [HC.out]; rfl
    · rw [HW.out]
      exact HO.out.base (by omega)
  · have HW : Hid (v.out = []) := by show v.out = []; simp [V.out, hc]
    have hcb : (v.chk != 0) = true := by simpa using hc
    go_wp2
    go_ret2
    refine ⟨_, rfl, ?_, hb1⟩
    rw [HW.out]
    exact Own.nil _ _

set_option maxRecDepth 100000 in
set_option maxHeartbeats 800000 in
theorem rSize_all (v : V) (B : Nat) (A : Option Addr) (cap : Nat) (w : World) (hv : RdV w (· < B) v A cap) (hB : B ≤ w.heap.size) (hd : v.depth ≤ 4611686018427387904) (hl : v.enc.length + 20 < 1099511627776) :
    Calls Try.prog 15 #[v.val A cap] w fun e w' => e = .returned (.tuple #[.int .i64 v.out.length, .int .i64 v.chk]) ∧ Below w.heap.size w w' := by
  have hb0 : Below w.heap.size w (w.alloc (.cells #[.int .i64 v.k, .int .i64 v.n, .string v.s, .slice A v.l.len cap] 24)) := (Below.refl _ _).alloc (Nat.le_refl _) _
  have C := Lib.hid (rEncode_all v B A cap (w.alloc (.cells #[.int .i64 v.k, .int .i64 v.n, .string v.s, .slice A v.l.len cap] 24)) (hv.below (hb0.mono hB)) (by simp; omega) hd hl)
  go_enter Try.func15, Try.ntmps15
  go_wp2_with fail
  refine C.out.mono ?_
  rintro e w' ⟨bv, rfl, ho, hb⟩
  have hb1 : Below w.heap.size w w' := below_box (hb.mono (by simp))
  obtain ⟨A', cap', rfl⟩ : ∃ A' cap', bv = .slice A' v.out.length cap' := by
    rcases ho.2 with ⟨rfl, h0⟩ | ⟨g, cap, cur, rfl, _⟩
    · exact ⟨_, _, by rw [h0]⟩
    · exact ⟨_, _, rfl⟩
  clear ho hb hb0 C
  go_wp2
  go_ret2
  exact ⟨rfl, hb1⟩
end Go.Proofs.Ytomiacedailmaaa
