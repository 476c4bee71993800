/- Codec: the reader's numerals. -/
import Derived.Test.YtomiacedailmaaaCO
namespace Go.Proofs.Ytomiacedailmaaa
open Go.RowKit

/-- the numeral at the head of l: g + 1 digits may still come, u is what the digits before say -/
def numP : Nat → Nat → List UInt8 → Option (Nat × List UInt8)
  | 0, _, _ => none
  | _ + 1, _, [] => none
  | g + 1, u, c :: r =>
    if (g = 0 ∧ 1 < c.toNat) ∨ (g < 9 ∧ c.toNat = 0) then none
    else if c.toNat < 128 then some (u + c.toNat % 128 * 128 ^ (9 - g), r)
    else numP g (u + c.toNat % 128 * 128 ^ (9 - g)) r

theorem or_digit (acc c sh : Nat) (ha : acc < 2 ^ sh) (hs : sh ≤ 63) (h1 : sh = 63 → c ≤ 1) (h2 : sh < 63 → sh ≤ 56) (hc : c < 256) :
    bits BinOp.or IntKind.u64 (acc : Int) (IntKind.u64.wrap (IntKind.u64.wrap (bits BinOp.and IntKind.u8 (c : Int) 127) * 2 ^ sh)) = ((acc + c % 128 * 2 ^ sh : Nat) : Int) := by
  have e1 : bits BinOp.and IntKind.u8 (c : Int) 127 = ((c % 128 : Nat) : Int) := by
    rw [show (127 : Int) = ((127 : Nat) : Int) from rfl, u8_and_nat _ _ hc (by omega), nat_mask7]
  have hm : c % 128 < 128 := Nat.mod_lt _ (by omega)
  have hp : c % 128 * 2 ^ sh < 18446744073709551616 := by
    rcases Nat.lt_or_ge sh 63 with h | h
    · have h3 : 2 ^ sh ≤ 2 ^ 56 := Nat.pow_le_pow_right (by omega) (h2 h)
      have h4 : c % 128 * 2 ^ sh ≤ 127 * 2 ^ 56 := Nat.mul_le_mul (by omega) h3
      omega
    · have e : sh = 63 := by omega
      subst e
      have := h1 rfl
      have : c % 128 ≤ 1 := by omega
      have h4 : c % 128 * 2 ^ 63 ≤ 1 * 2 ^ 63 := Nat.mul_le_mul_right _ this
      omega
  have hacc : acc < 18446744073709551616 := Nat.lt_of_lt_of_le ha (Nat.le_trans (Nat.pow_le_pow_right (by omega) hs) (by omega))
  rw [e1, IntKind.wrap_u64 ((c % 128 : Nat) : Int), show ((c % 128 : Nat) : Int) % 18446744073709551616 = ((c % 128 : Nat) : Int) from by omega]
  rw [show ((c % 128 : Nat) : Int) * 2 ^ sh = ((c % 128 * 2 ^ sh : Nat) : Int) from by rw [Int.natCast_mul, Int.natCast_pow]; rfl]
  rw [IntKind.wrap_u64, show ((c % 128 * 2 ^ sh : Nat) : Int) % 18446744073709551616 = ((c % 128 * 2 ^ sh : Nat) : Int) from by omega, u64_or_nat _ _ hacc hp]
  rw [Nat.or_comm, nat_join sh _ _ (Nat.mul_mod_left _ _) ha, Nat.add_comm]

theorem pow128 (k : Nat) : 128 ^ k = 2 ^ (7 * k) := by rw [Nat.pow_mul]

theorem grown2 {a b c : World} {k : Option Nat} (h1 : a.grownBy b k) (h2 : b.grownBy c k) : a.grownBy c k :=
  ⟨h2.os.trans h1.os, h2.tape.trans h1.tape, h2.output.trans h1.output, Nat.le_trans h1.size h2.size, fun k hk hne => (h2.block k (Nat.lt_of_lt_of_le hk h1.size) hne).trans (h1.block k hk hne)⟩

set_option maxRecDepth 100000 in
set_option maxHeartbeats 800000 in
theorem numeral_ok (rb B : Nat) (l : List UInt8) (w : World) (hr : Rdr w rb B l) (hB : B ≤ rb) (u : Nat) (l2 : List UInt8) (hp : numP 10 0 l = some (u, l2)) :
    Calls Try.prog 49 #[.pointer (some ⟨rb, 0, none⟩)] w fun e w' => e = .returned (.int .u64 u) ∧ Rdr w' rb B l2 ∧ w.grownBy w' (some rb) := by
  have HP := Lib.hid hp
  have HR := Lib.hid hr
  clear hp hr
  go_enter Try.func49, Try.ntmps49
  go_wp2_with fail
  go_loopw [2, 3] (fun a s wr => ∃ (g acc : Nat) (l' : List UInt8) (sh : Nat), a = .int .u64 acc ∧ s = .int .i64 sh ∧ g ≤ 9 ∧ sh = 7 * (9 - g) ∧ Rdr wr rb B l' ∧ numP (g + 1) acc l' = some (u, l2) ∧ acc < 128 ^ (9 - g) ∧ w.grownBy wr (some rb)) (fun _ s _ => 70 - (intOf s).toNat)
  case atStart => exact ⟨9, 0, l, 0, rfl, rfl, Nat.le_refl _, rfl, HR.out, HP.out, by simp, World.grownBy.refl _ _⟩
  case round =>
    obtain ⟨g, acc, l', sh, rfl, rfl, hg, hsh, hrd, hnp, hacc, hgr⟩ := hrel
    have hs63 : sh ≤ 63 := by omega
    cases l' with
    | nil => simp [numP] at hnp
    | cons c r =>
      have C := Lib.hid (digit_ok rb B c r wr hrd hB)
      have HN := Lib.hid hnp
      have HA := Lib.hid hacc
      have HS := Lib.hid hsh
      have HG := Lib.hid hgr
      clear hrd hnp hacc hsh hgr
      have hc := c.toNat_lt
      go_wp2_with fail
      refine C.out.mono ?_
      rintro e w' ⟨rfl, hrd, hg2⟩
      have HR2 := Lib.hid hrd
      have HG2 := Lib.hid hg2
      clear hrd hg2
      have hnf : ¬ ((g = 0 ∧ 1 < c.toNat) ∨ (g < 9 ∧ c.toNat = 0)) := fun h => by
        have := HN.out
        rw [numP, if_pos h] at this
        cases this
      have hs := HS.out
      have hs63 : sh ≤ 63 := by omega
      have hN : Hid ((if c.toNat < 128 then some (acc + c.toNat % 128 * 128 ^ (9 - g), r) else numP g (acc + c.toNat % 128 * 128 ^ (9 - g)) r) = some (u, l2)) := by
        have := HN.out
        rw [numP, if_neg hnf] at this
        exact this
      have hbits : Hid (bits BinOp.or IntKind.u64 (acc : Int) (IntKind.u64.wrap (IntKind.u64.wrap (bits BinOp.and IntKind.u8 (c.toNat : Int) 127) * 2 ^ sh)) = ((acc + c.toNat % 128 * 128 ^ (9 - g) : Nat) : Int)) := by
        have ha := HA.out
        show _ = _
        have e := pow128 (9 - g)
        rw [← HS.out] at e
        rw [e] at ha ⊢
        exact or_digit acc c.toNat sh ha (by omega) (by omega) (by omega) (by omega)
      have b63 : ((sh : Int) == 63) = decide (sh = 63) := by rw [Bool.eq_iff_iff]; simp; omega
      by_cases h0 : sh = 63
      · have hc1 : c.toNat ≤ 1 := by omega
        have hc0 : 0 < c.toNat := by omega
        have hb63 : ((sh : Int) == 63) = true := by rw [b63]; simpa using h0
        have hsp : 0 < sh := by omega
        have hcz : ((c.toNat : Int) == 0) = false := by rw [ibeq0]; simp; omega
        have H0 := Lib.hid h0
        clear hnf hs b63 h0
        have h128 : c.toNat < 128 := by omega
        go_wp2_with fail
        go_ret
        have hN2 := hN.out
        rw [if_pos h128] at hN2
        injection hN2 with hN2
        injection hN2 with e1 e2
        subst e2
        exact ⟨ret_int (by rw [hbits.out, e1]), HR2.out, ⟨HG2.out.os.trans HG.out.os, HG2.out.tape.trans HG.out.tape, HG2.out.output.trans HG.out.output, Nat.le_trans HG.out.size HG2.out.size, fun k hk hne => (HG2.out.block k (Nat.lt_of_lt_of_le hk HG.out.size) hne).trans (HG.out.block k hk hne)⟩⟩
      · have hb63 : ((sh : Int) == 63) = false := by rw [b63]; simpa using h0
        have hg9 : 1 ≤ g := by omega
        have hcond : sh = 0 ∨ (0 < sh ∧ 0 < c.toNat) := by omega
        have H0 := Lib.hid h0
        clear hnf hs b63 h0
        have fin : ∀ k, w.grownBy wr k → wr.grownBy w' k → w.grownBy w' k := fun _ h1 h2 => ⟨h2.os.trans h1.os, h2.tape.trans h1.tape, h2.output.trans h1.output, Nat.le_trans h1.size h2.size, fun k hk hne => (h2.block k (Nat.lt_of_lt_of_le hk h1.size) hne).trans (h1.block k hk hne)⟩
        have FIN := Lib.hid fin
        clear fin
        by_cases h128 : c.toNat < 128
        · rcases hcond with hz | ⟨hsp, hcp⟩
          · have hsz : ¬ 0 < sh := by omega
            have HZ := Lib.hid hz
            clear hz
            go_wp2_with fail
            go_ret
            have hN2 := hN.out
            rw [if_pos h128] at hN2
            injection hN2 with hN2
            injection hN2 with e1 e2
            subst e2
            exact ⟨ret_int (by rw [hbits.out, e1]), HR2.out, FIN.out _ HG.out HG2.out⟩
          · have hcz : ((c.toNat : Int) == 0) = false := by rw [ibeq0]; simp; omega
            go_wp2_with fail
            go_ret
            have hN2 := hN.out
            rw [if_pos h128] at hN2
            injection hN2 with hN2
            injection hN2 with e1 e2
            subst e2
            exact ⟨ret_int (by rw [hbits.out, e1]), HR2.out, FIN.out _ HG.out HG2.out⟩
        · have hcp : 0 < c.toNat := by omega
          have hcz : ((c.toNat : Int) == 0) = false := by rw [ibeq0]; simp; omega
          clear hcond
          have hrel : ∃ (g2 acc2 : Nat) (l2' : List UInt8) (sh2 : Nat), Value.int .u64 (bits BinOp.or IntKind.u64 (acc : Int) (IntKind.u64.wrap (IntKind.u64.wrap (bits BinOp.and IntKind.u8 (c.toNat : Int) 127) * 2 ^ sh))) = .int .u64 acc2 ∧ Value.int .i64 ((sh : Int) + 7) = .int .i64 sh2 ∧ g2 ≤ 9 ∧ sh2 = 7 * (9 - g2) ∧ Rdr w' rb B l2' ∧ numP (g2 + 1) acc2 l2' = some (u, l2) ∧ acc2 < 128 ^ (9 - g2) ∧ w.grownBy w' (some rb) := by
            have hN2 := hN.out
            rw [if_neg h128] at hN2
            refine ⟨g - 1, acc + c.toNat % 128 * 128 ^ (9 - g), r, sh + 7, by rw [hbits.out], rfl, by omega, by have := HS.out; omega, HR2.out, ?_, ?_, FIN.out _ HG.out HG2.out⟩
            · rw [show g - 1 + 1 = g from by omega]; exact hN2
            · rw [show 9 - (g - 1) = 9 - g + 1 from by omega, Nat.pow_succ]
              have ha := HA.out
              have hm : c.toNat % 128 ≤ 127 := by omega
              have := Nat.mul_le_mul_right (128 ^ (9 - g)) hm
              omega
          have HREL := Lib.hid hrel
          clear hrel
          by_cases hsp : 0 < sh
          all_goals
            go_wp2_with fail
            go_roundw
            case rel => exact HREL.out
            case measure => simp [intOf]; omega

set_option maxRecDepth 100000 in
set_option maxHeartbeats 800000 in
theorem numeral_bad (rb B : Nat) (l : List UInt8) (w : World) (hr : Rdr w rb B l) (hB : B ≤ rb) (hp : numP 10 0 l = none) :
    Calls Try.prog 49 #[.pointer (some ⟨rb, 0, none⟩)] w fun e w' => e = .panicked boom ∧ w.grownBy w' (some rb) := by
  have HP := Lib.hid hp
  have HR := Lib.hid hr
  clear hp hr
  go_enter Try.func49, Try.ntmps49
  go_wp2_with fail
  go_loopw [2, 3] (fun a s wr => ∃ (g acc : Nat) (l' : List UInt8) (sh : Nat), a = .int .u64 acc ∧ s = .int .i64 sh ∧ g ≤ 9 ∧ sh = 7 * (9 - g) ∧ Rdr wr rb B l' ∧ numP (g + 1) acc l' = none ∧ acc < 128 ^ (9 - g) ∧ w.grownBy wr (some rb)) (fun _ s _ => 70 - (intOf s).toNat)
  case atStart => exact ⟨9, 0, l, 0, rfl, rfl, Nat.le_refl _, rfl, HR.out, HP.out, by simp, World.grownBy.refl _ _⟩
  case round =>
    obtain ⟨g, acc, l', sh, rfl, rfl, hg, hsh, hrd, hnp, hacc, hgr⟩ := hrel
    have hs63 : sh ≤ 63 := by omega
    cases l' with
    | nil =>
      have C := Lib.hid (digit_bad rb B wr hrd)
      have HG := Lib.hid hgr
      clear hrd hnp hacc hsh hgr
      go_wp2_with fail
      refine C.out.mono ?_
      rintro e w' ⟨rfl, rfl⟩
      exact ⟨rfl, rfl, HG.out⟩
    | cons c r =>
      have C := Lib.hid (digit_ok rb B c r wr hrd hB)
      have HN := Lib.hid hnp
      have HA := Lib.hid hacc
      have HS := Lib.hid hsh
      have HG := Lib.hid hgr
      clear hrd hnp hacc hsh hgr
      have hc := c.toNat_lt
      go_wp2_with fail
      refine C.out.mono ?_
      rintro e w' ⟨rfl, hrd, hg2⟩
      have HR2 := Lib.hid hrd
      have HG2 := Lib.hid (grown2 HG.out hg2)
      clear hrd hg2
      have hs := HS.out
      have b63 : ((sh : Int) == 63) = decide (sh = 63) := by rw [Bool.eq_iff_iff]; simp; omega
      by_cases hnf : (g = 0 ∧ 1 < c.toNat) ∨ (g < 9 ∧ c.toNat = 0)
      · by_cases h0 : sh = 63
        · have hb63 : ((sh : Int) == 63) = true := by rw [b63]; simpa using h0
          have hsp : 0 < sh := by omega
          have HNF : Hid (¬ 1 < c.toNat → c.toNat = 0) := by show _ → _; omega
          clear hnf hs b63 h0
          by_cases hc1 : 1 < c.toNat
          · go_wp2_with (go_at_call 38; refine (fail_all _ _).mono ?_; rintro e w'' ⟨rfl, rfl⟩)
            exact ⟨rfl, rfl, HG2.out⟩
          · have hcz : ((c.toNat : Int) == 0) = true := by rw [ibeq0]; simpa using HNF.out hc1
            go_wp2_with (go_at_call 38; refine (fail_all _ _).mono ?_; rintro e w'' ⟨rfl, rfl⟩)
            exact ⟨rfl, rfl, HG2.out⟩
        · have hb63 : ((sh : Int) == 63) = false := by rw [b63]; simpa using h0
          have hsp : 0 < sh := by omega
          have hcz : ((c.toNat : Int) == 0) = true := by rw [ibeq0]; simp; omega
          clear hnf hs b63 h0
          go_wp2_with (go_at_call 38; refine (fail_all _ _).mono ?_; rintro e w'' ⟨rfl, rfl⟩)
          exact ⟨rfl, rfl, HG2.out⟩
      · have hN : Hid ((if c.toNat < 128 then some (acc + c.toNat % 128 * 128 ^ (9 - g), r) else numP g (acc + c.toNat % 128 * 128 ^ (9 - g)) r) = none) := by
          have := HN.out
          rw [numP, if_neg hnf] at this
          exact this
        have h128 : ¬ c.toNat < 128 := fun h => by have := hN.out; rw [if_pos h] at this; cases this
        have hg1 : 1 ≤ g := by omega
        have hbits : Hid (bits BinOp.or IntKind.u64 (acc : Int) (IntKind.u64.wrap (IntKind.u64.wrap (bits BinOp.and IntKind.u8 (c.toNat : Int) 127) * 2 ^ sh)) = ((acc + c.toNat % 128 * 128 ^ (9 - g) : Nat) : Int)) := by
          have ha := HA.out
          show _ = _
          have e := pow128 (9 - g)
          rw [← HS.out] at e
          rw [e] at ha ⊢
          exact or_digit acc c.toNat sh ha (by omega) (by omega) (by omega) (by omega)
        have hb63 : ((sh : Int) == 63) = false := by rw [b63]; simp; omega
        have hcp : 0 < c.toNat := by omega
        have hcz : ((c.toNat : Int) == 0) = false := by rw [ibeq0]; simp; omega
        have hrel : ∃ (g2 acc2 : Nat) (l2' : List UInt8) (sh2 : Nat), Value.int .u64 (bits BinOp.or IntKind.u64 (acc : Int) (IntKind.u64.wrap (IntKind.u64.wrap (bits BinOp.and IntKind.u8 (c.toNat : Int) 127) * 2 ^ sh))) = .int .u64 acc2 ∧ Value.int .i64 ((sh : Int) + 7) = .int .i64 sh2 ∧ g2 ≤ 9 ∧ sh2 = 7 * (9 - g2) ∧ Rdr w' rb B l2' ∧ numP (g2 + 1) acc2 l2' = none ∧ acc2 < 128 ^ (9 - g2) ∧ w.grownBy w' (some rb) := by
          have hN2 := hN.out
          rw [if_neg h128] at hN2
          refine ⟨g - 1, acc + c.toNat % 128 * 128 ^ (9 - g), r, sh + 7, by rw [hbits.out], rfl, by omega, by have := HS.out; omega, HR2.out, ?_, ?_, HG2.out⟩
          · rw [show g - 1 + 1 = g from by omega]; exact hN2
          · rw [show 9 - (g - 1) = 9 - g + 1 from by omega, Nat.pow_succ]
            have ha := HA.out
            have hm : c.toNat % 128 ≤ 127 := by omega
            have := Nat.mul_le_mul_right (128 ^ (9 - g)) hm
            omega
        have HREL := Lib.hid hrel
        clear hrel hnf hs b63
        by_cases hsp : 0 < sh
        all_goals
          go_wp2_with fail
          go_roundw
          case rel => exact HREL.out
          case measure => simp [intOf]; omega
end Go.Proofs.Ytomiacedailmaaa
