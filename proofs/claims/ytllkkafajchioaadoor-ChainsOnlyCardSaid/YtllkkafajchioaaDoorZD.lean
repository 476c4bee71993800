/- Chains: ChainsOnly's walk, for any lists. -/
import Derived.Test.YtllkkafajchioaaDoorZC
namespace Go.Proofs.YtllkkafajchioaaDoor
open Go.RowKit

set_option maxRecDepth 100000 in
set_option maxHeartbeats 3200000 in
theorem only_all (p m : List UInt8) (L : List (List UInt8)) (A : Option Addr) (c : Nat) (M : List (List UInt8)) (B : Option Addr) (d : Nat) (w : World) (hp : p.length = 32) (hm : m.length = 32) (hl : DL w (· < w.heap.size) L A c) (hn : DL w (· < w.heap.size) M B d) (hk : KR w Kt) :
    Calls Tryd.prog 8 #[.agg (U p).toArray, .agg (U m).toArray, .slice A L.length c, .slice B M.length d] w fun e w' => e = .returned (.bool true) ∧ Below w.heap.size w w' := by
  have hcA := hl.1
  have hmA : c ≤ 9223372036854775807 := hl.2.1
  have hcB := hn.1
  have hmB : d ≤ 9223372036854775807 := hn.2.1
  have HP := Lib.hid hp
  have HM := Lib.hid hm
  have HL := Lib.hid hl
  have HN := Lib.hid hn
  have HK := Lib.hid hk
  have hlt0 := hk.lt
  clear hp hm hl hn hk
  have early : ∀ (b1 b2 : Bool), (¬ (L.length ≤ 40 ∧ M.length ≤ 40 ∧ b1 = true ∧ b2 = true)) →
      (L.length ≤ 40 → ∀ ww, DL ww (· < ww.heap.size) L A c → KR ww Kt → Calls Tryd.prog 23 #[.agg (U p).toArray, .agg (U m).toArray, .slice A L.length c] ww fun e w' => e = .returned (.bool b1) ∧ Below ww.heap.size ww w') →
      (L.length ≤ 40 → M.length ≤ 40 → ∀ ww, DL ww (· < ww.heap.size) M B d → KR ww Kt → Calls Tryd.prog 23 #[.agg (U p).toArray, .agg (U m).toArray, .slice B M.length d] ww fun e w' => e = .returned (.bool b2) ∧ Below ww.heap.size ww w') →
      Calls Tryd.prog 8 #[.agg (U p).toArray, .agg (U m).toArray, .slice A L.length c, .slice B M.length d] w fun e w' => e = .returned (.bool true) ∧ Below w.heap.size w w' := by
    intro b1 b2 hno hv1 hv2
    have HV1 := Lib.hid hv1
    have HV2 := Lib.hid hv2
    clear hv1 hv2
    go_enter Tryd.func8, Tryd.ntmps8
    go_wp2_with fail
    generalize hW1 : (w.alloc _).alloc _ = W1
    obtain ⟨h0, h1, hb1, hz1⟩ := box2 w (U p).toArray (U m).toArray 23 23 W1 hW1
    clear hW1
    have KE := Lib.hid (show ∀ ww, Below W1.heap.size W1 ww → RowB ww w.heap.size 23 p ∧ RowB ww (w.heap.size + 1) 23 m ∧ DL ww (· < ww.heap.size) L A c ∧ DL ww (· < ww.heap.size) M B d ∧ KR ww Kt ∧ Below w.heap.size w ww from fun ww h => by
      have hw1 : Below w.heap.size w ww := hb1.trans (h.mono (by omega))
      have hz := hw1.size
      exact ⟨(h.block _ (by omega)).trans h0, (h.block _ (by omega)).trans h1, HL.out.keep fun i hi => ⟨by omega, hw1.block i hi⟩, HN.out.keep fun i hi => ⟨by omega, hw1.block i hi⟩, HK.out.keep (hw1.block 0 hlt0), hw1⟩)
    have STEP := Lib.hid (show ∀ ww w', Below W1.heap.size W1 ww → Below ww.heap.size ww w' → Below W1.heap.size W1 w' from fun ww w' h1 h2 => h1.trans (h2.mono h1.size))
    refine (sane_all W1 (HK.out.keep (hb1.block 0 hlt0))).mono ?_
    rintro e w1 ⟨rfl, hb⟩
    have HB1 := Lib.hid hb
    clear hb hb1 hz1 h0 h1
    by_cases h40 : 40 < L.length
    · generalize L.length = n1 at *
      generalize M.length = n2 at *
      go_wp2_with fail
      go_ret
      exact ⟨rfl, (KE.out _ HB1.out).2.2.2.2.2⟩
    by_cases h41 : 40 < M.length
    · generalize L.length = n1 at *
      generalize M.length = n2 at *
      go_wp2_with fail
      go_ret
      exact ⟨rfl, (KE.out _ HB1.out).2.2.2.2.2⟩
    have C1 := Lib.hid (HV1.out (by omega) w1 (KE.out _ HB1.out).2.2.1 (KE.out _ HB1.out).2.2.2.2.1)
    have HB : b1 = true → b2 = false := fun h => by
      cases b2 with
      | false => rfl
      | true => exact absurd ⟨by omega, by omega, h, rfl⟩ hno
    have C2 := Lib.hid (show ∀ w2, Below W1.heap.size W1 w2 → Calls Tryd.prog 23 #[.agg (U p).toArray, .agg (U m).toArray, .slice B M.length d] w2 fun e w' => e = .returned (.bool b2) ∧ Below w2.heap.size w2 w' from fun w2 h => HV2.out (by omega) (by omega) w2 (KE.out _ h).2.2.2.1 (KE.out _ h).2.2.2.2.1)
    clear hno HV1 HV2
    generalize L.length = n1 at *
    generalize M.length = n2 at *
    have q1 : decide ((40 : Int) < n1) = false := decide_eq_false (by omega)
    have q2 : decide ((40 : Int) < n2) = false := decide_eq_false (by omega)
    have rp := (KE.out _ HB1.out).1
    have rm := (KE.out _ HB1.out).2.1
    go_wp2_with (first | (refine load_Bw rfl (.tmp 4) rfl w.heap.size rfl 23 p rp HP.out ?_) | (refine load_Bw rfl (.tmp 5) rfl (w.heap.size + 1) rfl 23 m rm HM.out ?_))
    refine C1.out.mono ?_
    rintro e w2 ⟨rfl, hb⟩
    have HB2 := Lib.hid (STEP.out _ _ HB1.out hb)
    clear hb rp rm HB1
    cases b1 with
    | false =>
      go_wp2_with fail
      go_ret
      exact ⟨rfl, (KE.out _ HB2.out).2.2.2.2.2⟩
    | true =>
      obtain rfl := HB rfl
      have rp := (KE.out _ HB2.out).1
      have rm := (KE.out _ HB2.out).2.1
      go_wp2_with (first | (refine load_Bw rfl (.tmp 4) rfl w.heap.size rfl 23 p rp HP.out ?_) | (refine load_Bw rfl (.tmp 5) rfl (w.heap.size + 1) rfl 23 m rm HM.out ?_))
      refine (C2.out _ HB2.out).mono ?_
      rintro e w3 ⟨rfl, hb⟩
      have HB3 := Lib.hid (STEP.out _ _ HB2.out hb)
      clear hb rp rm HB2
      go_wp2_with fail
      go_ret
      exact ⟨rfl, (KE.out _ HB3.out).2.2.2.2.2⟩
  by_cases h1 : L.length ≤ 40
  · obtain ⟨b1, hv1, C1, _⟩ := verify_any p m L A c HP.out HM.out h1
    by_cases h2 : M.length ≤ 40
    · obtain ⟨b2, hv2, C2, _⟩ := verify_any p m M B d HP.out HM.out h2
      by_cases hb : b1 = true ∧ b2 = true
      · obtain ⟨hL, hr1⟩ := hv1 hb.1
        obtain ⟨hM, hr2⟩ := hv2 hb.2
        have C := only_main p m L M A B c d w HP.out HM.out hL hM HL.out HN.out hr1 hr2 HK.out
        rw [hL, hM]
        exact C
      · exact early b1 b2 (fun h => hb h.2.2) (fun _ => C1) (fun _ _ => C2)
    · exact early b1 true (fun h => h2 h.2.1) (fun _ => C1) (fun _ h => absurd h h2)
  · exact early true true (fun h => h1 h.1) (fun h => absurd h h1) (fun h => absurd h h1)
end Go.Proofs.YtllkkafajchioaaDoor
