/- Keys: Few and Same of the reference; Sign for any numbers. -/
import Derived.Test.YteicbdjennjcdaaDoorW24
namespace Go.Proofs.YteicbdjennjcdaaDoor
set_option maxRecDepth 100000
open Go.RowKit

/-- a small tree, a short signature -/
def fewB (n : Int) (s : Lf) : Bool := (decide (n ≤ 10) || decide (256 < n)) && decide ((s.C.length : Int) ≤ 30) && decide ((s.P.length : Int) ≤ 12)
set_option maxHeartbeats 1600000 in
theorem rFew_all (n : Int) (s : Lf) (w : World) : Calls Tryd.prog 11 #[.int .i64 n, .agg s.cs] w fun e w' => e = .returned (.bool (fewB n s)) ∧ Below w.heap.size w w' := by
  have r1 : BxL (w.alloc (.cells s.cs 28)) w.heap.size s := heap_alloc_new w _
  have HB := Lib.hid (show Below w.heap.size w (w.alloc (.cells s.cs 28)) from (Below.refl _ _).alloc (Nat.le_refl _) _)
  have c1 := r1.c1
  have c2 := r1.c2
  clear r1
  by_cases h1 : n ≤ 10
  · by_cases h3 : (s.C.length : Int) ≤ 30
    · by_cases h4 : (s.P.length : Int) ≤ 12
      · have HV := Lib.hid (show fewB n s = true by simp only [fewB, decide_eq_true h1, decide_eq_true h3, decide_eq_true h4]; rfl)
        go_enter Tryd.func11, Tryd.ntmps11
        go_wp2_with fail
        go_ret
        exact ⟨ret_bool HV.out.symm, HB.out⟩
      · have HV := Lib.hid (show fewB n s = false by simp only [fewB, decide_eq_true h1, decide_eq_true h3, decide_eq_false h4]; rfl)
        go_enter Tryd.func11, Tryd.ntmps11
        go_wp2_with fail
        go_ret
        exact ⟨ret_bool HV.out.symm, HB.out⟩
    · have HV := Lib.hid (show fewB n s = false by simp only [fewB, decide_eq_true h1, decide_eq_false h3]; rfl)
      go_enter Tryd.func11, Tryd.ntmps11
      go_wp2_with fail
      go_ret
      exact ⟨ret_bool HV.out.symm, HB.out⟩
  · by_cases h2 : 256 < n
    · by_cases h3 : (s.C.length : Int) ≤ 30
      · by_cases h4 : (s.P.length : Int) ≤ 12
        · have HV := Lib.hid (show fewB n s = true by simp only [fewB, decide_eq_true h2, decide_eq_true h3, decide_eq_true h4, Bool.or_true]; rfl)
          go_enter Tryd.func11, Tryd.ntmps11
          go_wp2_with fail
          go_ret
          exact ⟨ret_bool HV.out.symm, HB.out⟩
        · have HV := Lib.hid (show fewB n s = false by simp only [fewB, decide_eq_true h2, decide_eq_true h3, decide_eq_false h4, Bool.or_true]; rfl)
          go_enter Tryd.func11, Tryd.ntmps11
          go_wp2_with fail
          go_ret
          exact ⟨ret_bool HV.out.symm, HB.out⟩
      · have HV := Lib.hid (show fewB n s = false by simp only [fewB, decide_eq_true h2, decide_eq_false h3, Bool.or_true]; rfl)
        go_enter Tryd.func11, Tryd.ntmps11
        go_wp2_with fail
        go_ret
        exact ⟨ret_bool HV.out.symm, HB.out⟩
    · have HV := Lib.hid (show fewB n s = false by simp only [fewB, decide_eq_false h1, decide_eq_false h2]; rfl)
      go_enter Tryd.func11, Tryd.ntmps11
      go_wp2_with fail
      go_ret
      exact ⟨ret_bool HV.out.symm, HB.out⟩
theorem few_len {n : Int} {s : Lf} (h : fewB n s = true) : (n ≤ 10 ∨ 256 < n) ∧ s.C.length ≤ 30 ∧ s.P.length ≤ 12 := by
  simp only [fewB, Bool.and_eq_true, Bool.or_eq_true, decide_eq_true_eq] at h
  omega

set_option maxHeartbeats 1600000 in
theorem rSameL_all (t u : Lf) (w : World) (h1 : t.i = u.i) (h2 : t.C = u.C) (h3 : t.P = u.P) (ht : t.ok w (· < w.heap.size)) (hu : u.ok w (· < w.heap.size)) (hC : t.C.length ≤ 1099511627776) (hP : t.P.length ≤ 1099511627776) :
    Calls Tryd.prog 18 #[.agg t.cs, .agg u.cs] w fun e w' => e = .returned (.bool true) ∧ Below w.heap.size w w' := by
  obtain ⟨b1, b2, hb1, hz1⟩ := box2 w t.cs u.cs 28 28 _ rfl
  have r1 : BxL ((w.alloc (.cells t.cs 28)).alloc (.cells u.cs 28)) w.heap.size t := b1
  have r2 : BxL ((w.alloc (.cells t.cs 28)).alloc (.cells u.cs 28)) (w.heap.size + 1) u := b2
  have HB1 := Lib.hid hb1
  have ht1 := ht.keep (w' := (w.alloc (.cells t.cs 28)).alloc (.cells u.cs 28)) (S' := (· < ((w.alloc (.cells t.cs 28)).alloc (.cells u.cs 28)).heap.size)) fun i hi => ⟨by omega, hb1.block i hi⟩
  have hu1 := hu.keep (w' := (w.alloc (.cells t.cs 28)).alloc (.cells u.cs 28)) (S' := (· < ((w.alloc (.cells t.cs 28)).alloc (.cells u.cs 28)).heap.size)) fun i hi => ⟨by omega, hb1.block i hi⟩
  obtain ⟨ti, tC, tP, tcA, tcc, tpA, tpc⟩ := t
  obtain ⟨ui, uC, uP, ucA, ucc, upA, upc⟩ := u
  simp only at h1 h2 h3 hC hP
  subst h1 h2 h3
  have c0 := r1.c0
  have c1 := r1.c1
  have c2 := r1.c2
  have d0 := r2.c0
  have d1 := r2.c1
  have d2 := r2.c2
  have R1 := Lib.hid r1
  have R2 := Lib.hid r2
  have HT := Lib.hid ht1
  have HU := Lib.hid hu1
  simp only at c0 c1 c2 d0 d1 d2
  have CS := Lib.hid (rsame_all tC tcA tcc ucA ucc _ HT.out.1 HU.out.1 hC)
  clear hz1 b1 b2 r1 r2 hb1 ht hu ht1 hu1
  go_enter Tryd.func18, Tryd.ntmps18
  go_wp2_with fail
  refine CS.out.mono ?_
  rintro e w2 ⟨rfl, hb2⟩
  have p2 := (R1.out.keep (hb2.block _ R1.out.lt)).c2
  have q2 := (R2.out.keep (hb2.block _ R2.out.lt)).c2
  simp only at p2 q2
  have CT := Lib.hid (rsame_all tP tpA tpc upA upc w2 ((hok1 HT.out hb2).2) ((hok1 HU.out hb2).2) hP)
  have HB2 := Lib.hid (HB1.out.trans (hb2.mono HB1.out.size))
  clear CS hb2 c0 c1 c2 d0 d1 d2
  go_wp2_with fail
  refine CT.out.mono ?_
  rintro e w3 ⟨rfl, hb3⟩
  have HB3 := Lib.hid (HB2.out.trans (hb3.mono HB2.out.size))
  clear CT hb3 p2 q2
  go_wp2_with fail
  go_ret
  exact ⟨rfl, HB3.out⟩

/-- what Sign returns, of any numbers -/
structure SgAny (f : Nat) (s m : List UInt8) (n i : Int) (w' : World) (t : Lf) (e : Int) : Prop where
  no : NoLf n i → t = Lf.zero ∧ e = 60
  yes : ¬ NoLf n i → t.i = i ∧ t.C = sgn (sdK s i) m ∧ t.P = pth f (pubs s n.toNat) i.toNat ∧ e = 0
  ok : t.ok w' (· < w'.heap.size)
theorem zero_ok (w : World) (S : Nat → Prop) : Lf.zero.ok w S := ⟨⟨Nat.le_refl _, Nat.zero_le _, fun _ => rfl, (fun _ h => nomatch h), fun h => absurd h (by simp [Lf.zero])⟩, ⟨Nat.le_refl _, Nat.zero_le _, fun _ => rfl, (fun _ h => nomatch h), fun h => absurd h (by simp [Lf.zero])⟩⟩
theorem sgAny_of {f : Nat} {s m : List UInt8} {n i : Nat} {w w' : World} {t : Lf} (hn1 : 1 ≤ n) (hn2 : n ≤ 256) (hi : i < n) (h : SgOk f s m n i w w' t) : SgAny f s m n i w' t 0 :=
  ⟨fun h' => absurd ⟨⟨by omega, by omega⟩, by omega, by omega⟩ h', fun _ => ⟨h.1, h.2.1, by rw [Int.toNat_natCast, Int.toNat_natCast]; exact h.2.2.1, rfl⟩, h.2.2.2.keep fun j hj => ⟨hj.2, rfl⟩⟩
theorem Sign_any (f : Nat) (hf : f = 1099511627776) (s m : List UInt8) (n i : Int) (w : World) (hs : s.length = 32) (hm : m.length = 32) (hk : KR w Kt) :
    Calls Tryd.prog 14 #[.agg (U s).toArray, .int .i64 n, .int .i64 i, .agg (U m).toArray] w fun e w' => ∃ t x, e = .returned (.tuple #[.agg t.cs, .int .i64 x]) ∧ SgAny f s m n i w' t x ∧ Below w.heap.size w w' := by
  by_cases h : NoLf n i
  · exact (Sign_no s m n i w h).mono fun e w' ⟨he, hb⟩ => ⟨Lf.zero, 60, he, ⟨fun _ => ⟨rfl, rfl⟩, fun h' => absurd h h', zero_ok _ _⟩, hb⟩
  · obtain ⟨k, rfl⟩ : ∃ k : Nat, n = k := ⟨n.toNat, by simp only [NoLf, Classical.not_not] at h; omega⟩
    obtain ⟨j, rfl⟩ : ∃ j : Nat, i = j := ⟨i.toNat, by simp only [NoLf, Classical.not_not] at h; omega⟩
    simp only [NoLf, Classical.not_not] at h
    exact (Sign_yes f hf s m k j w (by omega) (by omega) (by omega) hs hm hk).mono fun e w' ⟨t, he, ho, hb⟩ => ⟨t, 0, he, sgAny_of (by omega) (by omega) (by omega) ho, hb⟩
theorem rSign_any (f : Nat) (hf : f = 1099511627776) (s m : List UInt8) (n i : Int) (w : World) (hs : s.length = 32) (hm : m.length = 32) :
    Calls Tryd.prog 15 #[.agg (U s).toArray, .int .i64 n, .int .i64 i, .agg (U m).toArray] w fun e w' => ∃ t x, e = .returned (.tuple #[.agg t.cs, .int .i64 x]) ∧ SgAny f s m n i w' t x ∧ Below w.heap.size w w' := by
  by_cases h : NoLf n i
  · exact (rSign_no s m n i w h).mono fun e w' ⟨he, hb⟩ => ⟨Lf.zero, 60, he, ⟨fun _ => ⟨rfl, rfl⟩, fun h' => absurd h h', zero_ok _ _⟩, hb⟩
  · obtain ⟨k, rfl⟩ : ∃ k : Nat, n = k := ⟨n.toNat, by simp only [NoLf, Classical.not_not] at h; omega⟩
    obtain ⟨j, rfl⟩ : ∃ j : Nat, i = j := ⟨i.toNat, by simp only [NoLf, Classical.not_not] at h; omega⟩
    simp only [NoLf, Classical.not_not] at h
    exact (rSign_yes f hf s m k j w (by omega) (by omega) (by omega) hs hm).mono fun e w' ⟨t, he, ho, hb⟩ => ⟨t, 0, he, sgAny_of (by omega) (by omega) (by omega) ho, hb⟩
theorem SgAny.same {f : Nat} {s m : List UInt8} {n i : Int} {w w' : World} {t u : Lf} {e e' : Int} (h : SgAny f s m n i w t e) (h' : SgAny f s m n i w' u e') : t.i = u.i ∧ t.C = u.C ∧ t.P = u.P ∧ e = e' := by
  by_cases hn : NoLf n i
  · obtain ⟨a, b⟩ := h.no hn
    obtain ⟨c, d⟩ := h'.no hn
    rw [a, b, c, d]
    exact ⟨rfl, rfl, rfl, rfl⟩
  · obtain ⟨a1, a2, a3, a4⟩ := h.yes hn
    obtain ⟨b1, b2, b3, b4⟩ := h'.yes hn
    exact ⟨by rw [a1, b1], by rw [a2, b2], by rw [a3, b3], by rw [a4, b4]⟩
theorem SgAny.lens {f : Nat} {s m : List UInt8} {n i : Int} {w : World} {t : Lf} {e : Int} (h : SgAny f s m n i w t e) (_hn : n ≤ 10 ∨ 256 < n) : t.C.length ≤ 19 ∧ t.P.length ≤ 5 := by
  by_cases hn : NoLf n i
  · rw [(h.no hn).1]
    exact ⟨Nat.zero_le _, Nat.zero_le _⟩
  · obtain ⟨_, a2, a3, _⟩ := h.yes hn
    simp only [NoLf, Classical.not_not] at hn
    rw [a2, a3, sgn_len, pth_len f _ _ (by rw [pubs_len]; omega), pubs_len]
    exact ⟨Nat.le_refl _, stp_log f 5 _ _ (by omega) (by omega)⟩
end Go.Proofs.YteicbdjennjcdaaDoor
