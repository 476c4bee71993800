/- Digest: a block is absorbed. -/
import Derived.Test.YteicbdjennjcdaaDoorW01
namespace Go.Proofs.YteicbdjennjcdaaDoor
set_option maxRecDepth 100000
open Go.RowKit

theorem ror2 (x : UInt32) (w : World) : Calls Tryd.prog 111 #[.int .u32 (I x), .int .i64 2] w fun e w' => e = .returned (.int .u32 (I (rr 2 x))) ∧ w' = w := ror_all x 2 w (by omega) (by omega)
theorem ror6 (x : UInt32) (w : World) : Calls Tryd.prog 111 #[.int .u32 (I x), .int .i64 6] w fun e w' => e = .returned (.int .u32 (I (rr 6 x))) ∧ w' = w := ror_all x 6 w (by omega) (by omega)
theorem ror11 (x : UInt32) (w : World) : Calls Tryd.prog 111 #[.int .u32 (I x), .int .i64 11] w fun e w' => e = .returned (.int .u32 (I (rr 11 x))) ∧ w' = w := ror_all x 11 w (by omega) (by omega)
theorem ror13 (x : UInt32) (w : World) : Calls Tryd.prog 111 #[.int .u32 (I x), .int .i64 13] w fun e w' => e = .returned (.int .u32 (I (rr 13 x))) ∧ w' = w := ror_all x 13 w (by omega) (by omega)
theorem ror22 (x : UInt32) (w : World) : Calls Tryd.prog 111 #[.int .u32 (I x), .int .i64 22] w fun e w' => e = .returned (.int .u32 (I (rr 22 x))) ∧ w' = w := ror_all x 22 w (by omega) (by omega)
theorem ror25 (x : UInt32) (w : World) : Calls Tryd.prog 111 #[.int .u32 (I x), .int .i64 25] w fun e w' => e = .returned (.int .u32 (I (rr 25 x))) ∧ w' = w := ror_all x 25 w (by omega) (by omega)

/-- the numbers of a datum that is an array of numbers -/
def nums : DataW Unit → List Nat
  | .agg l => l.map fun
    | .lit (.int _ n) => n.toNat
    | _ => 0
  | _ => []
/-- the numbers K -/
def Kt : List UInt32 := (nums Rows.laid_testamur_digest_constants).map UInt32.ofNat
theorem Kt_len : Kt.length = 64 := by kernel_rfl

/-- the numbers K lie in the first block -/
def KR (w : World) (l : List UInt32) : Prop := 0 < w.heap.size ∧ ∀ i x, l[i]? = some x → w.cell? ⟨0, i, none⟩ = some (.int .u32 (I x))
theorem KR.lt {w : World} {l : List UInt32} (h : KR w l) : 0 < w.heap.size := h.1
theorem KR.cell {w : World} {l : List UInt32} (h : KR w l) {i : Nat} {x : UInt32} (hx : l[i]? = some x) : w.cell? ⟨0, i, none⟩ = some (.int .u32 (I x)) := h.2 i x hx
theorem KR.keep {w w' : World} {l : List UInt32} (h : KR w l) (hk : w'.heap[0]? = w.heap[0]?) : KR w' l := by
  refine ⟨?_, fun i x hx => (World.cell?_of_block hk).trans (h.2 i x hx)⟩
  have h1 : w.heap[0]? ≠ none := by
    rw [Array.getElem?_eq_getElem h.1]
    simp
  by_cases h2 : 0 < w'.heap.size
  · exact h2
  · rw [Array.getElem?_eq_none (by omega)] at hk
    exact absurd hk.symm h1

structure S8 where
  (a b c d e f g h : UInt32)
def S8.l (s : S8) : List UInt32 := [s.a, s.b, s.c, s.d, s.e, s.f, s.g, s.h]
def fp (s : S8) (k w : UInt32) : UInt32 := s.h + (rr 6 s.e ^^^ rr 11 s.e ^^^ rr 25 s.e) + ((s.e &&& s.f) ^^^ (~~~s.e &&& s.g)) + k + w
def fq (s : S8) : UInt32 := (rr 2 s.a ^^^ rr 13 s.a ^^^ rr 22 s.a) + ((s.a &&& s.b) ^^^ (s.a &&& s.c) ^^^ (s.b &&& s.c))
def rnd (k w : UInt32) (s : S8) : S8 := ⟨fp s k w + fq s, s.a, s.b, s.c, s.d + fp s k w, s.e, s.f, s.g⟩
def rnds (W : List UInt32) : Nat → S8 → S8
  | 0, s => s
  | n + 1, s => rnd (gw Kt n) (gw W n) (rnds W n s)
def add8 (x y : S8) : S8 := ⟨x.a + y.a, x.b + y.b, x.c + y.c, x.d + y.d, x.e + y.e, x.f + y.f, x.g + y.g, x.h + y.h⟩
def comp (s : S8) (first : List UInt32) : S8 := add8 s (rnds (sch first 48) 64 s)

theorem I_fp (s : S8) (k w : UInt32) : (I s.h + bits .xor .u32 (bits .xor .u32 (I (rr 6 s.e)) (I (rr 11 s.e))) (I (rr 25 s.e)) + bits .xor .u32 (bits .and .u32 (I s.e) (I s.f)) (bits .and .u32 (bits .xor .u32 IntKind.u32.max (I s.e)) (I s.g)) + I k + I w) % 4294967296 = I (fp s k w) := by
  rw [I_xor, I_xor, I_and, I_not, I_and, I_xor]
  unfold fp I
  rw [UInt32.toNat_add, UInt32.toNat_add, UInt32.toNat_add, UInt32.toNat_add]
  omega

theorem I_add2 (x y : UInt32) : (I x + I y) % 4294967296 = I (x + y) := by
  unfold I; rw [UInt32.toNat_add]; omega
theorem I_fq (s : S8) : (bits .xor .u32 (bits .xor .u32 (I (rr 2 s.a)) (I (rr 13 s.a))) (I (rr 22 s.a)) + bits .xor .u32 (bits .xor .u32 (bits .and .u32 (I s.a) (I s.b)) (bits .and .u32 (I s.a) (I s.c))) (bits .and .u32 (I s.b) (I s.c))) % 4294967296 = I (fq s) := by
  rw [I_xor, I_xor, I_and, I_and, I_and, I_xor, I_xor, I_add2]
  rfl
/-- the sums so far -/
def mix (s v : S8) (n : Nat) : List UInt32 := (List.zipWith (· + ·) s.l v.l).take n ++ s.l.drop n

theorem mix_step (s v : S8) (n : Nat) (h : n < 8) : ∃ x y, (mix s v n)[n]? = some x ∧ (mix s v n).set n (x + y) = mix s v (n + 1) ∧
    ∀ w, (Instr.index 108 (.agg #[.int .u32 (I v.a), .int .u32 (I v.b), .int .u32 (I v.c), .int .u32 (I v.d), .int .u32 (I v.e), .int .u32 (I v.f), .int .u32 (I v.g), .int .u32 (I v.h)]) (.int .i64 (n : Int))).run Tryd.prog w = .ok (.int .u32 (I y)) w := by
  rcases (by omega : n = 0 ∨ n = 1 ∨ n = 2 ∨ n = 3 ∨ n = 4 ∨ n = 5 ∨ n = 6 ∨ n = 7) with rfl | rfl | rfl | rfl | rfl | rfl | rfl | rfl <;> exact ⟨_, _, rfl, rfl, fun _ => by kernel_rfl⟩

theorem grown_cell {w w2 : World} {b : Nat} (h : w.grownBy w2 (some b)) (i : Nat) (v : Value) : w.grownBy (w2.setCell ⟨b, i, none⟩ v).drew (some b) :=
  ⟨h.os, h.tape, h.output, by
    have := h.size
    show w.heap.size ≤ (w2.setCell _ _).heap.size
    simp [World.setCell]
    omega, fun k hk hne => (Below.heap_setCell _ _ _ _ (by intro e; exact hne (by rw [e]))).trans (h.block k hk hne)⟩

theorem gw_get (l : List UInt32) (i : Nat) (h : i < l.length) : l[i]? = some (gw l i) := by
  rw [gw, List.getD_eq_getElem?_getD, List.getElem?_eq_getElem h]
  rfl

theorem below_box {w w' : World} {o : Obj} (h : Below (w.alloc o).heap.size (w.alloc o) w') : Below w.heap.size w w' :=
  ((Below.refl _ _).alloc (Nat.le_refl _) o).trans (h.mono (by simp))

set_option maxRecDepth 100000 in
set_option maxHeartbeats 1600000 in
theorem absorb_all (s : S8) (first : List UInt32) (sb : Nat) (w : World) (hf : first.length = 16) (hk : KR w Kt) (hs : Row w sb 109 s.l) (_h0 : sb ≠ 0) :
    Calls Tryd.prog 100 #[.pointer (some ⟨sb, 0, none⟩), .agg (R32 first).toArray] w fun e w' => e = .returned (.tuple #[]) ∧ Row w' sb 109 (comp s first).l ∧ w.grownBy w' (some sb) := by
  have hlt := hs.lt
  have hlt0 := hk.lt
  have HK := Lib.hid hk
  have HS := Lib.hid hs
  clear hk hs
  have hbx : Row (w.alloc (.cells (R32 first).toArray 120)) w.heap.size 120 first := heap_alloc_new w _
  go_enter Tryd.func100, Tryd.ntmps100
  go_wp2_with (refine load_R rfl 120 (.tmp 3) rfl w.heap.size rfl 120 first _ _ _ hbx Tryd.underlying120 sz16 hf ?_)
  refine (schedule_all first _ hf).mono ?_
  rintro e w1 ⟨rfl, hb⟩
  have hb1 : Below w.heap.size w w1 := below_box hb
  have hsl : (sch first 48).length = 64 := by rw [sch_len, hf]
  have hz1 : w.heap.size < w1.heap.size := by have := hb.size; simp at this; omega
  have HSL := Lib.hid hsl
  have HB1 := Lib.hid hb1
  clear hb hb1 hsl hbx
  have hw : Row (w1.alloc (.cells (R32 (fl 64 [])).toArray 123)) w1.heap.size 123 (fl 64 []) := heap_alloc_new w1 _
  go_wp2_with (refine store_R rfl 123 (.tmp 4) (.tmp 19) rfl w1.heap.size (fl 64 []) (sch first 48) rfl rfl 123 64 hw sz64 HSL.out (fl_len 64 [] (by simp)) ?_)
  obtain ⟨W2, hW2⟩ : ∃ W2, W2 = (w1.alloc (.cells (R32 (fl 64 [])).toArray 123)).setRow w1.heap.size (R32 (sch first 48)).toArray := ⟨_, rfl⟩
  have rw2 : Row W2 w1.heap.size 123 (sch first 48) := by rw [hW2]; exact hw.setRow _
  have hb2 : Below w.heap.size w W2 := by
    rw [hW2]
    exact below_setRow (HB1.out.alloc (by omega) _) (by omega) _
  change Code.wp _ _ _ _ ((w1.alloc (.cells (R32 (fl 64 [])).toArray 123)).setRow w1.heap.size (R32 (sch first 48)).toArray)
  rw [← hW2]
  clear hW2 hw
  have rk2 : KR W2 Kt := HK.out.keep (hb2.block 0 hlt0)
  have rs2 : Row W2 sb 109 s.l := HS.out.keep (hb2.block sb hlt)
  have d0 := rs2.cell (i := 0) (x := s.a) rfl
  have d1 := rs2.cell (i := 1) (x := s.b) rfl
  have d2 := rs2.cell (i := 2) (x := s.c) rfl
  have d3 := rs2.cell (i := 3) (x := s.d) rfl
  have d4 := rs2.cell (i := 4) (x := s.e) rfl
  have d5 := rs2.cell (i := 5) (x := s.f) rfl
  have d6 := rs2.cell (i := 6) (x := s.g) rfl
  have d7 := rs2.cell (i := 7) (x := s.h) rfl
  have RK2 := Lib.hid rk2
  have RS2 := Lib.hid rs2
  have RW2 := Lib.hid rw2
  have HB2 := Lib.hid hb2
  clear rk2 rs2 rw2 hb2
  go_quiet (fail)
  obtain ⟨W3, hW3⟩ : ∃ W3, W3 = W2.drewN nq := ⟨_, rfl⟩
  rw [← hW3]
  have rk3 : KR W3 Kt := by rw [hW3]; exact RK2.out
  have rs3 : Row W3 sb 109 s.l := by rw [hW3]; exact RS2.out
  have rw3 : Row W3 w1.heap.size 123 (sch first 48) := by rw [hW3]; exact RW2.out
  have hb3 : Below w.heap.size w W3 := by rw [hW3]; exact below_drewN HB2.out _
  have RK3 := Lib.hid rk3
  have RS3 := Lib.hid rs3
  have RW3 := Lib.hid rw3
  have HB3 := Lib.hid hb3
  clear hW3 rk3 rs3 rw3 hb3 RK2 RS2 RW2 HB2 d0 d1 d2 d3 d4 d5 d6 d7
  obtain ⟨KK, hKK⟩ : ∃ KK, KK = Kt := ⟨_, rfl⟩
  obtain ⟨SC, hSC⟩ : ∃ SC, SC = sch first 48 := ⟨_, rfl⟩
  obtain ⟨F, hF⟩ : ∃ F : Nat → S8, F = fun n => rnds SC n s := ⟨_, rfl⟩
  rw [← hKK] at RK3
  have HF0 := Lib.hid (show s = F 0 by rw [hF]; rfl)
  have HFS := Lib.hid (show ∀ n, F (n + 1) = rnd (gw KK n) (gw SC n) (F n) by intro n; rw [hF, hKK]; rfl)
  have HFE := Lib.hid (show comp s first = add8 s (F 64) by rw [hF, hSC]; rfl)
  have HKL := Lib.hid (show KK.length = 64 by rw [hKK]; exact Kt_len)
  rw [← hSC] at RW3 HSL
  rw [← hSC]
  clear hKK hSC hF HK
  go_wp2_with fail
  go_loopw [5, 6, 7, 8, 9, 10, 11, 12, 52] (fun xa xb xc xd xe xf xg xh x wr => ∃ (n : Nat) (v : S8), x = .int .i64 n ∧ n ≤ 64 ∧ v = F n ∧ xa = .int .u32 (I v.a) ∧ xb = .int .u32 (I v.b) ∧ xc = .int .u32 (I v.c) ∧ xd = .int .u32 (I v.d) ∧
      xe = .int .u32 (I v.e) ∧ xf = .int .u32 (I v.f) ∧ xg = .int .u32 (I v.g) ∧ xh = .int .u32 (I v.h) ∧ KR wr KK ∧ Row wr sb 109 s.l ∧ Row wr w1.heap.size 123 SC ∧ Below w.heap.size w wr) (fun _ _ _ _ _ _ _ _ x _ => 64 - (intOf x).toNat)
  case atStart => exact ⟨0, s, rfl, by omega, HF0.out, rfl, rfl, rfl, rfl, rfl, rfl, rfl, rfl, RK3.out, RS3.out, RW3.out, HB3.out⟩
  case round =>
    obtain ⟨n, v, rfl, hn, hv, rfl, rfl, rfl, rfl, rfl, rfl, rfl, rfl, hrk, hrs, hrw, hbl⟩ := hrel
    have HV := Lib.hid hv
    clear hv
    by_cases hlt : n < 64
    · have ck := hrk.cell (gw_get KK n (by rw [HKL.out]; exact hlt))
      have cw := hrw.cell (gw_get SC n (by rw [HSL.out]; exact hlt))
      have HRK := Lib.hid hrk
      have HRS := Lib.hid hrs
      have HRW := Lib.hid hrw
      have HBL := Lib.hid hbl
      clear hrk hrs hrw hbl
      go_wp2_with fail
      go_quiet (first
        | (go_at_call 111; (with_reducible show Calls _ _ #[_, Value.int IntKind.i64 6] _ _); exact Calls.quiet_of_same (ror6 _ _))
        | (go_at_call 111; (with_reducible show Calls _ _ #[_, Value.int IntKind.i64 11] _ _); exact Calls.quiet_of_same (ror11 _ _))
        | (go_at_call 111; (with_reducible show Calls _ _ #[_, Value.int IntKind.i64 25] _ _); exact Calls.quiet_of_same (ror25 _ _)))
      go_wp2_with fail
      rw [I_fp]
      refine (ror2 _ _).mono ?_
      rintro e w' ⟨rfl, rfl⟩
      go_wp2_with fail
      refine (ror13 _ _).mono ?_
      rintro e w' ⟨rfl, rfl⟩
      go_wp2_with fail
      refine (ror22 _ _).mono ?_
      rintro e w' ⟨rfl, rfl⟩
      go_wp2_with fail
      go_roundw
      case rel =>
        exact ⟨n + 1, rnd (gw KK n) (gw SC n) v, rfl, by omega, by rw [HFS.out, ← HV.out], by rw [I_fq, I_add2]; rfl, rfl, rfl, rfl, by rw [I_add2]; rfl, rfl, rfl, rfl, HRK.out, HRS.out, HRW.out, below_drewN HBL.out _⟩
      case measure => simp [intOf]; omega
    · obtain rfl : n = 64 := by omega
      have HFIN := Lib.hid (show (comp s first).l = mix s v 8 by rw [HFE.out, ← HV.out]; rfl)
      have HBL := Lib.hid hbl
      have h0r : Row wr sb 109 (mix s v 0) := hrs
      have H0R := Lib.hid h0r
      clear hrk hrs hrw hbl h0r HV HFE HFS HF0 RK3 RS3 RW3 HB3
      go_wp2_with fail
      go_loopw [124] (fun x wr => ∃ n : Nat, x = .int .i64 n ∧ n ≤ 8 ∧ Row wr sb 109 (mix s v n) ∧ w.grownBy wr (some sb)) (fun x _ => 8 - (intOf x).toNat)
      case atStart => exact ⟨0, rfl, by omega, H0R.out, HBL.out.os, HBL.out.tape, HBL.out.output, HBL.out.size, fun k hk _ => HBL.out.block k hk⟩
      case round =>
        obtain ⟨n, rfl, hn, hrow, hg⟩ := hrel
        have HG := Lib.hid hg
        clear hg
        by_cases hlt : n < 8
        · obtain ⟨x, y, hx, hset, hidx⟩ := mix_step s v n hlt
          have hc := hrow.cell hx
          have hz := hrow.frozen n
          have HROW := Lib.hid hrow
          have HSET := Lib.hid hset
          clear hrow hset hx
          have b1 : (n : Int) < 8 := by omega
          go_wp2_with fail
          go_still_tail 9, (by kernel_rfl)
          change wpList _ _ _ _ _ wr.drew
          go_wp2_with fail
          go_roundw
          case rel =>
            refine ⟨_, _, _, _, _, _, _, _, _, _, _, _, _, _, _, _, ⟨n + 1, ?_, by omega, ?_, ?_⟩, rfl⟩
            · rfl
            · rw [I_add2, ← HSET.out]
              exact HROW.out.set n (x + y)
            · exact grown_cell HG.out n _
          case measure => simp [intOf]; omega
        · obtain rfl : n = 8 := by omega
          have HROW := Lib.hid hrow
          clear hrow
          go_wp2_with fail
          go_end0
          exact ⟨rfl, by rw [HFIN.out]; exact HROW.out, HG.out⟩
end Go.Proofs.YteicbdjennjcdaaDoor
