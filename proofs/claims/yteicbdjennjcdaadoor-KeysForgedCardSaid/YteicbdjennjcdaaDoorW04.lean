/- Several texts joined: parts JA JB. -/
import Derived.Test.YteicbdjennjcdaaDoorW03
import Derived.Deep.RegionHeld3
namespace Go.Proofs.YteicbdjennjcdaaDoor
section
set_option maxRecDepth 100000
open Go.RowKit

theorem rror7 (x : UInt32) (w : World) : Calls Tryd.prog 113 #[.int .u32 (I x), .int .i64 7] w fun e w' => e = .returned (.int .u32 (I (rr 7 x))) ∧ ∃ m, w' = w.drewN m := rror_all x 7 w (by omega) (by omega)
theorem rror18 (x : UInt32) (w : World) : Calls Tryd.prog 113 #[.int .u32 (I x), .int .i64 18] w fun e w' => e = .returned (.int .u32 (I (rr 18 x))) ∧ ∃ m, w' = w.drewN m := rror_all x 18 w (by omega) (by omega)
theorem rror17 (x : UInt32) (w : World) : Calls Tryd.prog 113 #[.int .u32 (I x), .int .i64 17] w fun e w' => e = .returned (.int .u32 (I (rr 17 x))) ∧ ∃ m, w' = w.drewN m := rror_all x 17 w (by omega) (by omega)
theorem rror19 (x : UInt32) (w : World) : Calls Tryd.prog 113 #[.int .u32 (I x), .int .i64 19] w fun e w' => e = .returned (.int .u32 (I (rr 19 x))) ∧ ∃ m, w' = w.drewN m := rror_all x 19 w (by omega) (by omega)
theorem rror6 (x : UInt32) (w : World) : Calls Tryd.prog 113 #[.int .u32 (I x), .int .i64 6] w fun e w' => e = .returned (.int .u32 (I (rr 6 x))) ∧ ∃ m, w' = w.drewN m := rror_all x 6 w (by omega) (by omega)
theorem rror11 (x : UInt32) (w : World) : Calls Tryd.prog 113 #[.int .u32 (I x), .int .i64 11] w fun e w' => e = .returned (.int .u32 (I (rr 11 x))) ∧ ∃ m, w' = w.drewN m := rror_all x 11 w (by omega) (by omega)
theorem rror25 (x : UInt32) (w : World) : Calls Tryd.prog 113 #[.int .u32 (I x), .int .i64 25] w fun e w' => e = .returned (.int .u32 (I (rr 25 x))) ∧ ∃ m, w' = w.drewN m := rror_all x 25 w (by omega) (by omega)
theorem rror2 (x : UInt32) (w : World) : Calls Tryd.prog 113 #[.int .u32 (I x), .int .i64 2] w fun e w' => e = .returned (.int .u32 (I (rr 2 x))) ∧ ∃ m, w' = w.drewN m := rror_all x 2 w (by omega) (by omega)
theorem rror13 (x : UInt32) (w : World) : Calls Tryd.prog 113 #[.int .u32 (I x), .int .i64 13] w fun e w' => e = .returned (.int .u32 (I (rr 13 x))) ∧ ∃ m, w' = w.drewN m := rror_all x 13 w (by omega) (by omega)
theorem rror22 (x : UInt32) (w : World) : Calls Tryd.prog 113 #[.int .u32 (I x), .int .i64 22] w fun e w' => e = .returned (.int .u32 (I (rr 22 x))) ∧ ∃ m, w' = w.drewN m := rror_all x 22 w (by omega) (by omega)

theorem build_R {ops : Array Oper} {rest : List Oper} {o : Oper} {a : Act} {w : World} {Q : Exit → Act → World → Prop} (hgd : o.guard = none) (t : TypeId) (parts : Array (Nat × Operand)) (ho : o.op = .build t parts)
    (l : List UInt32) (hb : Tryd.prog.built t (parts.map fun (i, x) => (i, a.eval x)).toList = some (R32 l).toArray)
    (hK : wpList Tryd.prog ops Q rest (a.put o.dst (.agg (R32 l).toArray)) w) : wpList Tryd.prog ops Q (o :: rest) a w := by
  refine wpList_build hgd t parts ho (by rw [hb]; rfl) ?_
  rw [hb]
  exact hK

set_option maxRecDepth 100000 in
set_option maxHeartbeats 1600000 in
theorem numbers_all (w : World) : Calls Tryd.prog 114 #[] w fun e w' => e = .returned (.agg (R32 Kt).toArray) ∧ Below w.heap.size w w' := by
  have hz : Row (w.alloc (.cells (R32 (fl 64 [])).toArray 123)) w.heap.size 123 (fl 64 []) := heap_alloc_new w _
  have hz2 := hz.setRow Kt
  go_enter Tryd.func114, Tryd.ntmps114
  go_wp2_with (first
    | (refine build_R rfl _ _ rfl Kt (by kernel_rfl) ?_)
    | (refine store_R rfl 123 (.tmp 0) (.tmp 1) rfl w.heap.size (fl 64 []) Kt rfl rfl 123 64 hz sz64 Kt_len rfl ?_))
  exact bodyPost_ret (res_R rfl _ _ _ _ _ _ _ _ rfl hz2 Tryd.underlying123 sz64 Kt_len) rfl ⟨rfl, below_setRow ((Below.refl _ _).alloc (Nat.le_refl _) _) (Nat.le_refl _) _⟩
end
section
set_option maxRecDepth 100000
open Go.RowKit

theorem below_draws {B : Nat} {a w w' : World} (h : Below B a w) (e : w'.heap = w.heap ∧ w'.os = w.os ∧ w'.tape = w.tape ∧ w'.output = w.output) : Below B a w' :=
  ⟨e.2.1.trans h.os, e.2.2.1.trans h.tape, e.2.2.2.trans h.output, by rw [e.1]; exact h.size, fun k hk => by rw [e.1]; exact h.block k hk⟩
theorem I_sx' (a x c y : UInt32) : (((I a + bits .xor .u32 (bits .xor .u32 (I (rr 7 x)) (I (rr 18 x))) (I x / 8)) % 4294967296 + I c) % 4294967296 + bits .xor .u32 (bits .xor .u32 (I (rr 17 y)) (I (rr 19 y))) (I y / 1024)) % 4294967296 = I (a + s0 x + c + s1 y) := by
  rw [I_d3, I_d10, I_xor, I_xor, I_xor, I_xor, I_add2, I_add2, I_add2]
  rfl
/-- the rows of the reference's block -/
def BR (w : World) (b : Nat) (s : S8) (l : List UInt32) : Prop := Row w b 108 s.l ∧ Row w (b + 1) 108 (fl 8 []) ∧ Row w (b + 2) 123 l

theorem box3R (w : World) (s : S8) (W1 : World) (h : ((w.alloc (.cells (R32 s.l).toArray 108)).alloc (.cells (R32 (fl 8 [])).toArray 108)).alloc (.cells (R32 (fl 64 [])).toArray 123) = W1) :
    BR W1 w.heap.size s (fl 64 []) ∧ Below w.heap.size w W1 ∧ W1.heap.size = w.heap.size + 3 := by
  obtain ⟨h1, h2, h3, h4, h5⟩ := box3 w _ _ _ _ _ _ W1 h
  exact ⟨⟨h1, h2, h3⟩, h4, h5⟩

set_option maxRecDepth 100000 in
set_option maxHeartbeats 3200000 in
theorem rblock_all (s : S8) (c : List UInt8) (g o cap : Nat) (w : World) (hc : c.length = 64) (hb : Byt w (· < w.heap.size) c (some ⟨g, o, none⟩) cap) :
    Calls Tryd.prog 104 #[.agg (R32 s.l).toArray, .slice (some ⟨g, o, none⟩) 64 cap] w fun e w' => e = .returned (.agg (R32 (comp s (wds c 16)).l).toArray) ∧ Below w.heap.size w w' := by
  have HB := Lib.hid hb
  have HCL := Lib.hid hc
  have hcap := hb.1
  rw [hc] at hcap
  obtain ⟨hr0, hb0, hz0⟩ := box3R w s _ rfl
  have HR0 := Lib.hid hr0
  have HB0 := Lib.hid hb0
  have r2 := hr0.2.2
  clear hb hc hr0 hb0 hz0
  go_enter Tryd.func104, Tryd.ntmps104
  go_wp2_with (first
    | (refine build_R rfl 123 _ rfl (fl 64 []) (by kernel_rfl) ?_)
    | (refine store_S rfl 123 (.tmp 5) (.tmp 22) rfl (w.heap.size + 2) (fl 64 []) rfl rfl 123 64 r2 sz64 rfl ?_))
  clear r2
  go_loopw [6] (fun x wr => ∃ t : Nat, x = .int .i64 t ∧ t ≤ 16 ∧ BR wr w.heap.size s (fl 64 (wds c t)) ∧ Below w.heap.size w wr) (fun x _ => 16 - (intOf x).toNat)
  case atStart => exact ⟨0, rfl, by omega, HR0.out, HB0.out⟩
  case round =>
    obtain ⟨t, rfl, ht, hrow, hbl⟩ := hrel
    by_cases hlt : t < 16
    · have hcl := HCL.out
      have hbw := HB.out.keep (S' := (· < w.heap.size)) fun i hi => ⟨hi, hbl.block i hi⟩
      have C := Lib.hid (rword_all (by_ c (4 * t)) (by_ c (4 * t + 1)) (by_ c (4 * t + 2)) (by_ c (4 * t + 3)) g (o + 4 * t) 4 (cap - 4 * t) wr (by omega) (by_cell hbw _ (by omega)) (by_cell hbw (4 * t + 1) (by omega)) (by_cell hbw (4 * t + 2) (by omega)) (by_cell hbw (4 * t + 3) (by omega)))
      have hcell : ∀ m, (wr.drewN m).cell? ⟨w.heap.size + 2, t, none⟩ = some (.int .u32 (I 0)) := fun m => Row.cell (w := wr.drewN m) hrow.2.2 (by have := fl_next 64 (wds c t) (by rw [wds_len]; omega); rwa [wds_len] at this)
      have hfz := hrow.2.2.frozen t
      have HROW := Lib.hid hrow
      have HBL := Lib.hid hbl
      clear hbw hrow hbl hcl
      go_wp2_with fail
      refine C.out.mono ?_
      rintro e w' ⟨rfl, m, rfl⟩
      have hcm := hcell m
      clear hcell C
      go_wp2_with fail
      go_roundw
      case rel =>
        refine ⟨t + 1, rfl, by omega, ?_, (below_drewN HBL.out m).setCell (by show w.heap.size ≤ w.heap.size + 2; omega) _⟩
        have h := Row.next (w := wr.drewN m) HROW.out.2.2 (by rw [wds_len]; omega) (wAt c t)
        rw [wds_len, ← wds_succ] at h
        exact ⟨Row.keep (w := wr.drewN m) HROW.out.1 (Below.heap_setCell _ _ _ _ (by show w.heap.size ≠ w.heap.size + 2; omega)), Row.keep (w := wr.drewN m) HROW.out.2.1 (Below.heap_setCell _ _ _ _ (by show w.heap.size + 1 ≠ w.heap.size + 2; omega)), h⟩
      case measure => simp [intOf]; omega
    · obtain rfl : t = 16 := by omega
      have HROW := Lib.hid hrow
      have HBL := Lib.hid hbl
      clear hrow hbl HR0 HB0
      go_wp2_with fail
      go_loopw [7] (fun x wr => ∃ n : Nat, x = .int .i64 ((n : Int) + 16) ∧ n ≤ 48 ∧ BR wr w.heap.size s (fl 64 (sch (wds c 16) n)) ∧ Below w.heap.size w wr) (fun x _ => 64 - (intOf x).toNat)
      case atStart => exact ⟨0, rfl, by omega, HROW.out, HBL.out⟩
      case round =>
        obtain ⟨n, rfl, hn, hrow, hbl⟩ := hrel
        have hsl : (sch (wds c 16) n).length = n + 16 := by rw [sch_len, wds_len]; omega
        by_cases hlt : n < 48
        · have c1 := hrow.2.2.at_ (i := n + 1) (by omega)
          have c14 := hrow.2.2.at_ (i := n + 14) (by omega)
          have c0 := hrow.2.2.at_ (i := n) (by omega)
          have c9 := hrow.2.2.at_ (i := n + 9) (by omega)
          have hnx := fl_next 64 (sch (wds c 16) n) (by rw [hsl]; omega)
          rw [hsl] at hnx
          have ca := hrow.2.2.cell hnx
          have fa := hrow.2.2.frozen (n + 16)
          have HROW := Lib.hid hrow
          have HBL := Lib.hid hbl
          have HSL := Lib.hid hsl
          clear hrow hbl hsl hnx
          have e1 : IntKind.i64.wrap (n : Int) = n := IntWalk.i64_in _ (by omega)
          have e2 : IntKind.i64.wrap ((n : Int) + 9) = n + 9 := IntWalk.i64_in _ (by omega)
          have e3 : IntKind.i64.wrap ((n : Int) + 16 - 7) = n + 9 := by rw [show (n : Int) + 16 - 7 = n + 9 by omega]; exact e2
          have e4 : (n : Int) + 16 - 7 = n + 9 := by omega
          have b1 : (n : Int) < 64 := by omega
          have b2 : (n : Int) + 9 < 64 := by omega
          have b3 : (n : Int) + 16 < 64 := by omega
          have b4 : (0 : Int) ≤ (n : Int) + 9 := by omega
          have b5 : (0 : Int) ≤ (n : Int) + 16 := by omega
          have t9 : ((n : Int) + 9).toNat = n + 9 := by omega
          have t16 : ((n : Int) + 16).toNat = n + 16 := by omega
          go_wp2_with fail
          go_region_held3 (fun w' => w'.cell? ⟨w.heap.size + 2, n, none⟩ = some (.int .u32 (I (gw (sch (wds c 16) n) n))) ∧ w'.cell? ⟨w.heap.size + 2, n + 9, none⟩ = some (.int .u32 (I (gw (sch (wds c 16) n) (n + 9)))))
            (first | exact ⟨c0, c9⟩ | exact ⟨(World.cell?_setCell_other _ _ _ _ (by intro e; injection e with _ e2; omega)).trans c0, (World.cell?_setCell_other _ _ _ _ (by intro e; injection e with _ e2; omega)).trans c9⟩)
            (first
              | (go_at_call 113; (with_reducible show Calls _ _ #[_, Value.int IntKind.i64 7] _ _); refine (rror7 _ _).mono ?_; rintro e w5 ⟨rfl, m5, rfl⟩)
              | (go_at_call 113; (with_reducible show Calls _ _ #[_, Value.int IntKind.i64 18] _ _); refine (rror18 _ _).mono ?_; rintro e w5 ⟨rfl, m5, rfl⟩)
              | (go_at_call 113; (with_reducible show Calls _ _ #[_, Value.int IntKind.i64 17] _ _); refine (rror17 _ _).mono ?_; rintro e w5 ⟨rfl, m5, rfl⟩)
              | (go_at_call 113; (with_reducible show Calls _ _ #[_, Value.int IntKind.i64 19] _ _); refine (rror19 _ _).mono ?_; rintro e w5 ⟨rfl, m5, rfl⟩))
          all_goals
            go_wp2_with fail
            go_roundw
            case rel =>
              refine ⟨_, _, _, _, _, _, _, _, _, _, _, _, _, _, _, _, _, _, _, _, _, _, _, _, _, _, _, _, _, _, _, _, _, _, _, _, _, _, _, _, _, _, _, _, ⟨n + 1, ?_, by omega, ?_, ?_⟩, rfl⟩
              · exact congrArg (Value.int IntKind.i64) (by omega)
              · rw [I_sx']
                have hl := HSL.out
                have h := Row.next (show Row _ _ _ _ from HROW.out.2.2) (by rw [hl]; omega) (sx (sch (wds c 16) n) n)
                rw [hl] at h
                exact ⟨Row.keep (show Row _ _ _ _ from HROW.out.1) (Below.heap_setCell _ _ _ _ (by show w.heap.size ≠ w.heap.size + 2; omega)), Row.keep (show Row _ _ _ _ from HROW.out.2.1) (Below.heap_setCell _ _ _ _ (by show w.heap.size + 1 ≠ w.heap.size + 2; omega)), h⟩
              · refine Below.setCell (below_drewN HBL.out _) ?_ _
                show w.heap.size ≤ w.heap.size + 2
                omega
            case measure => simp [intOf]; omega
        · obtain rfl : n = 48 := by omega
          have hfin : BR wr w.heap.size s (sch (wds c 16) 48) := by rw [fl_full _ _ hsl] at hrow; exact hrow
          have HFIN := Lib.hid hfin
          have HBL := Lib.hid hbl
          have HSL := Lib.hid hsl
          clear hrow hbl hsl hfin
          obtain ⟨SC, hSC⟩ : ∃ SC, SC = sch (wds c 16) 48 := ⟨_, rfl⟩
          rw [← hSC] at HFIN HSL
          have HCOMP := Lib.hid (show comp s (wds c 16) = add8 s (rnds SC 64 s) by rw [hSC]; rfl)
          clear hSC
          go_wp2_with fail
          refine (numbers_all wr).mono ?_
          rintro e w2 ⟨rfl, hb2⟩
          have hz2 := hb2.size
          have hzr := HBL.out.size
          have hlt2 := HFIN.out.2.2.lt
          have hlt0 := HFIN.out.1.lt
          have hlt1 := HFIN.out.2.1.lt
          have nk : Row (w2.alloc (.cells (R32 (fl 64 [])).toArray 123)) w2.heap.size 123 (fl 64 []) := heap_alloc_new w2 _
          have nk' := nk.setRow Kt
          have hb3 : Below w2.heap.size w2 ((w2.alloc (.cells (R32 (fl 64 [])).toArray 123)).setRow w2.heap.size (R32 Kt).toArray) := below_setRow ((Below.refl _ _).alloc (Nat.le_refl _) _) (Nat.le_refl _) _
          have NK := Lib.hid nk'
          have HB3 := Lib.hid hb3
          have HB2 := Lib.hid hb2
          clear nk' hb3 hb2
          go_wp2_with (refine store_R rfl 123 (.tmp 10) (.tmp 78) rfl w2.heap.size (fl 64 []) Kt rfl rfl 123 64 nk sz64 Kt_len rfl ?_)
          generalize hg3 : (w2.alloc _).setRow _ _ = W3
          have hb3 : Below w2.heap.size w2 W3 := by rw [← hg3]; exact HB3.out
          have hk3 : Row W3 w2.heap.size 123 Kt := by rw [← hg3]; exact NK.out
          clear hg3 HB3 NK nk
          have hbr : BR W3 w.heap.size s SC := ⟨HFIN.out.1.keep ((hb3.block _ (by omega)).trans (HB2.out.block _ hlt0)), HFIN.out.2.1.keep ((hb3.block _ (by omega)).trans (HB2.out.block _ hlt1)), HFIN.out.2.2.keep ((hb3.block _ (by omega)).trans (HB2.out.block _ hlt2))⟩
          have hbw : Below w.heap.size w W3 := HBL.out.trans ((HB2.out.trans (hb3.mono hz2)).mono hzr)
          have d0 := hbr.1.cell (i := 0) (x := s.a) rfl
          have d1 := hbr.1.cell (i := 1) (x := s.b) rfl
          have d2 := hbr.1.cell (i := 2) (x := s.c) rfl
          have d3 := hbr.1.cell (i := 3) (x := s.d) rfl
          have d4 := hbr.1.cell (i := 4) (x := s.e) rfl
          have d5 := hbr.1.cell (i := 5) (x := s.f) rfl
          have d6 := hbr.1.cell (i := 6) (x := s.g) rfl
          have d7 := hbr.1.cell (i := 7) (x := s.h) rfl
          obtain ⟨KK, hKK⟩ : ∃ KK, KK = Kt := ⟨_, rfl⟩
          obtain ⟨F, hF⟩ : ∃ F : Nat → S8, F = fun n => rnds SC n s := ⟨_, rfl⟩
          rw [← hKK] at hk3
          have HF0 := Lib.hid (show s = F 0 by rw [hF]; rfl)
          have HFS := Lib.hid (show ∀ n, F (n + 1) = rnd (gw KK n) (gw SC n) (F n) by intro n; rw [hF, hKK]; rfl)
          have HFE := Lib.hid (show comp s (wds c 16) = add8 s (F 64) by rw [hF, HCOMP.out])
          have HKL := Lib.hid (show KK.length = 64 by rw [hKK]; exact Kt_len)
          have HK3 := Lib.hid hk3
          have HBR := Lib.hid hbr
          have HBW := Lib.hid hbw
          clear hKK hF hk3 hbr hbw hb3 HFIN HBL HB2
          go_quiet (fail)
          obtain ⟨W4, hW4⟩ : ∃ W4, W4 = W3.drewN nq := ⟨_, rfl⟩
          rw [← hW4]
          have hk4 : Row W4 w2.heap.size 123 KK := by rw [hW4]; exact HK3.out
          have hbr4 : BR W4 w.heap.size s SC := by rw [hW4]; exact HBR.out
          have hbw4 : Below w.heap.size w W4 := by rw [hW4]; exact below_drewN HBW.out _
          have HK4 := Lib.hid hk4
          have HBR4 := Lib.hid hbr4
          have HBW4 := Lib.hid hbw4
          clear hW4 hk4 hbr4 hbw4 HK3 HBR HBW d0 d1 d2 d3 d4 d5 d6 d7
          go_wp2_with fail
          go_loopw [11, 12, 13, 14, 15, 16, 17, 18, 19] (fun xa xb xc xd xe xf xg xh x wr => ∃ (n : Nat) (v : S8), x = .int .i64 n ∧ n ≤ 64 ∧ v = F n ∧ xa = .int .u32 (I v.a) ∧ xb = .int .u32 (I v.b) ∧ xc = .int .u32 (I v.c) ∧ xd = .int .u32 (I v.d) ∧
              xe = .int .u32 (I v.e) ∧ xf = .int .u32 (I v.f) ∧ xg = .int .u32 (I v.g) ∧ xh = .int .u32 (I v.h) ∧ Row wr w2.heap.size 123 KK ∧ BR wr w.heap.size s SC ∧ Below w.heap.size w wr) (fun _ _ _ _ _ _ _ _ x _ => 64 - (intOf x).toNat)
          case atStart => exact ⟨0, s, rfl, by omega, HF0.out, rfl, rfl, rfl, rfl, rfl, rfl, rfl, rfl, HK4.out, HBR4.out, HBW4.out⟩
          case round =>
            obtain ⟨n, v, rfl, hn, hv, rfl, rfl, rfl, rfl, rfl, rfl, rfl, rfl, hrk, hbr, hbl⟩ := hrel
            have HV := Lib.hid hv
            clear hv HK4 HBR4 HBW4 HF0
            by_cases hlt : n < 64
            · have ck := hrk.cell (gw_get KK n (by rw [HKL.out]; exact hlt))
              have cw := hbr.2.2.cell (gw_get SC n (by rw [HSL.out]; exact hlt))
              have HRK := Lib.hid hrk
              have HBR := Lib.hid hbr
              have HBL := Lib.hid hbl
              clear hrk hbr hbl
              go_wp2_with fail
              go_quiet (first
                | (go_at_call 113; (with_reducible show Calls _ _ #[_, Value.int IntKind.i64 6] _ _); exact Calls.quiet_of (rror6 _ _))
                | (go_at_call 113; (with_reducible show Calls _ _ #[_, Value.int IntKind.i64 11] _ _); exact Calls.quiet_of (rror11 _ _))
                | (go_at_call 113; (with_reducible show Calls _ _ #[_, Value.int IntKind.i64 25] _ _); exact Calls.quiet_of (rror25 _ _)))
              go_wp2_with fail
              refine (rror2 _ _).mono ?_
              rintro e w' ⟨rfl, m1, rfl⟩
              go_wp2_with fail
              refine (rror13 _ _).mono ?_
              rintro e w' ⟨rfl, m2, rfl⟩
              go_wp2_with fail
              refine (rror22 _ _).mono ?_
              rintro e w' ⟨rfl, m3, rfl⟩
              go_wp2_with fail
              go_roundw
              case rel =>
                exact ⟨n + 1, rnd (gw KK n) (gw SC n) v, rfl, by omega, by rw [HFS.out, ← HV.out], by rw [I_fp, I_fq, I_add2]; rfl, rfl, rfl, rfl, by rw [I_fp, I_add2]; rfl, rfl, rfl, rfl, HRK.out, HBR.out, below_drewN HBL.out _⟩
              case measure => simp [intOf]; omega
            · obtain rfl : n = 64 := by omega
              have d0 := hbr.1.cell (i := 0) (x := s.a) rfl
              have d1 := hbr.1.cell (i := 1) (x := s.b) rfl
              have d2 := hbr.1.cell (i := 2) (x := s.c) rfl
              have d3 := hbr.1.cell (i := 3) (x := s.d) rfl
              have d4 := hbr.1.cell (i := 4) (x := s.e) rfl
              have d5 := hbr.1.cell (i := 5) (x := s.f) rfl
              have d6 := hbr.1.cell (i := 6) (x := s.g) rfl
              have d7 := hbr.1.cell (i := 7) (x := s.h) rfl
              have a0 := I_add2 s.a v.a
              have a1 := I_add2 s.b v.b
              have a2 := I_add2 s.c v.c
              have a3 := I_add2 s.d v.d
              have a4 := I_add2 s.e v.e
              have a5 := I_add2 s.f v.f
              have a6 := I_add2 s.g v.g
              have a7 := I_add2 s.h v.h
              have r1 := hbr.2.1
              have r1' := r1.setRow (add8 s v).l
              have HR1 := Lib.hid r1'
              have HBL := Lib.hid hbl
              clear hrk hbr hbl r1'
              go_wp2_with (refine store_R rfl 108 (.tmp 4) (.tmp 190) rfl (w.heap.size + 1) (fl 8 []) (add8 s v).l rfl rfl 108 8 r1 sz8' rfl rfl ?_)
              refine bodyPost_ret (res_R rfl _ _ _ _ _ _ _ _ rfl HR1.out Tryd.underlying108 sz8' rfl) rfl ⟨?_, below_setRow HBL.out (by omega) _⟩
              rw [HFE.out, ← HV.out]
end
end Go.Proofs.YteicbdjennjcdaaDoor
