/- Digest: the reference's Sum. -/
import Derived.Test.YtllkkafajchioaaDoorJB
import Derived.Test.YtllkkafajchioaaDoorJC
import Derived.Deep.RegionLaw
namespace Go.Proofs.YtllkkafajchioaaDoor
open Go.RowKit

/-- the store of a row of eight words, as a region's walk meets it -/
theorem st_row8 (w : World) (g : Nat) (t : TypeId) (l l' : List UInt32) (h : Row w g t l) (hl : l.length = 8) (hl' : l'.length = 8) :
    (storeVar 65 ⟨g, 0, none⟩ (.agg (R32 l').toArray)).run Tryd.prog w = .ok () (w.setRow g (R32 l').toArray) ∧
    (storeCells ⟨g, 0, none⟩ (R32 l') 0).run Tryd.prog w = .ok () (w.setRow g (R32 l').toArray) := by
  have h1 := run_storeVar_row (P := Tryd.prog) w g t 65 _ (R32 l').toArray h (by rw [sz8', R32_size, hl']) (by rw [R32_size, R32_size, hl, hl']) (R32_one l')
  refine ⟨h1, ?_⟩
  cases hq : Tryd.prog.info? 65 with
  | none =>
    have := sz8'
    rw [hq] at this
    cases this
  | some i =>
    have hs : i.size = 8 := by
      have := sz8'
      rw [hq] at this
      simpa using this
    have hu : (R32 l').length = 8 := by rw [R32_len, hl']
    simpa [storeVar, sizeOf, typeInfo, hq, Value.cells, hs, hu] using h1

theorem dby_eq2 (l : List UInt32) (t : Nat) : I (gw l (t / 4)) / 2 ^ (24 - 8 * (t % 4)) % 256 = ((dby l t).toNat : Int) := by
  rw [Nat.mul_comm]; exact dby_eq l t

theorem Byt.sub {w : World} {S : Nat → Prop} {l : List UInt8} {b o cap : Nat} (h : Byt w S l (some ⟨b, o, none⟩) cap) (k : Nat) : Byt w S ((l.drop k).take 64) (some ⟨b, o + k, none⟩) (cap - k) :=
  (h.drop k).take 64

set_option maxRecDepth 100000 in
set_option maxHeartbeats 3200000 in
theorem rsum_all (l : List UInt8) (A : Option Addr) (cap : Nat) (w : World) (hl : Byt w (· < w.heap.size) l A cap) (hn : l.length ≤ 1000000) :
    Calls Tryd.prog 51 #[.slice A l.length cap] w fun e w' => e = .returned (.agg (U (sha l)).toArray) ∧ Below w.heap.size w w' := by
  have HL := Lib.hid hl
  obtain ⟨h0, h1, hb1, hz1⟩ := box2 w (U (flb 32 [])).toArray (R32 (fl 8 [])).toArray 23 65 _ rfl
  have r1 : Row _ (w.heap.size + 1) 65 (fl 8 []) := h1
  have r1' := r1.setRow iv.l
  have r0 : RowB (((w.alloc (.cells (U (flb 32 [])).toArray 23)).alloc (.cells (R32 (fl 8 [])).toArray 65)).setRow (w.heap.size + 1) (R32 iv.l).toArray) w.heap.size 23 (flb 32 []) := (setRow_other _ _ _ _ (by omega)).trans h0
  have hb2 : Below w.heap.size w (((w.alloc (.cells (U (flb 32 [])).toArray 23)).alloc (.cells (R32 (fl 8 [])).toArray 65)).setRow (w.heap.size + 1) (R32 iv.l).toArray) := below_setRow hb1 (by omega) _
  have hz2 : (((w.alloc (.cells (U (flb 32 [])).toArray 23)).alloc (.cells (R32 (fl 8 [])).toArray 65)).setRow (w.heap.size + 1) (R32 iv.l).toArray).heap.size = w.heap.size + 2 := by rw [setRow_size]; exact hz1
  have R0 := Lib.hid r0
  have R1 := Lib.hid r1'
  have HB2 := Lib.hid hb2
  have HZ2 := Lib.hid hz2
  clear hl h0 h1 hb1 hz1 r1' r0 hb2 hz2
  go_enter Tryd.func51, Tryd.ntmps51
  go_wp2_with (refine store_R rfl 65 (.tmp 3) (.tmp 8) rfl (w.heap.size + 1) (fl 8 []) iv.l rfl rfl 65 8 r1 sz8' rfl rfl ?_)
  generalize hg2 : ((w.alloc _).alloc _).setRow _ _ = W2
  have r0 : RowB W2 w.heap.size 23 (flb 32 []) := by rw [← hg2]; exact R0.out
  have rs : Row W2 (w.heap.size + 1) 65 iv.l := by rw [← hg2]; exact R1.out
  have hb2 : Below w.heap.size w W2 := by rw [← hg2]; exact HB2.out
  have hz2 : W2.heap.size = w.heap.size + 2 := by rw [← hg2]; exact HZ2.out
  clear hg2 R0 R1 HB2 HZ2 r1
  refine (padded_all l A cap W2 (HL.out.keep fun i hi => ⟨by omega, hb2.block i hi⟩) hn).mono ?_
  rintro e w3 ⟨v, rfl, ho, hb⟩
  obtain ⟨A3, c3, rfl, hy⟩ := ho.byt
  have hz3 := hb.size
  have R0 := Lib.hid (r0.keep (hb.block _ (by omega)))
  have RS := Lib.hid (rs.keep (hb.block _ (by omega)))
  have HB3 := Lib.hid (hb2.trans (hb.mono (by omega)))
  obtain ⟨P, hP⟩ : ∃ P, P = padend l l.length := ⟨_, rfl⟩
  rw [← hP] at hy
  rw [← hP]
  have HY := Lib.hid hy
  have HFE := Lib.hid (show dbs (foldb iv P (P.length / 64)).l 32 = sha l by rw [hP, fold_all]; rfl)
  have hpm : P.length = P.length / 64 * 64 := by
    have h := kpad_eq l.length
    rw [hP, padend_len]
    omega
  have HPM := Lib.hid hpm
  have hpl : P.length ≤ 2000000 := by
    have h := kpad_bd l.length
    rw [hP, padend_len]
    omega
  clear hP ho hb hb2 r0 rs hy hpm
  go_wp2_with fail
  go_loopw [5] (fun x wr => ∃ n k : Nat, k = n * 64 ∧ x = .int .i64 k ∧ n ≤ P.length / 64 ∧ Row wr (w.heap.size + 1) 65 (foldb iv P n).l ∧ w3.grownBy wr (some (w.heap.size + 1))) (fun x _ => P.length - (intOf x).toNat)
  case atStart => exact ⟨0, 0, rfl, rfl, by omega, RS.out, grownBy_refl _ _⟩
  case round =>
    obtain ⟨n, k, hkn, rfl, hn2, hrow, hg⟩ := hrel
    have hpm := HPM.out
    have HKN := Lib.hid hkn
    have HROW := Lib.hid hrow
    have HG := Lib.hid hg
    by_cases hlt : n < P.length / 64
    · have hkl : k + 64 ≤ P.length := by omega
      obtain ⟨g, o, rfl, hS, _⟩ := HY.out.2.2.2 (by omega)
      have hcp := HY.out.1
      have hgz := hg.size
      have hby : Byt wr (· < wr.heap.size) ((P.drop k).take 64) (some ⟨g, o + k, none⟩) (c3 - k) :=
        (HY.out.keep (S' := (· < wr.heap.size)) fun i hi => ⟨by omega, hg.block i hi.2 (by intro e; injection e with e; omega)⟩).sub k
      obtain ⟨s, hs⟩ : ∃ s, s = foldb iv P n := ⟨_, rfl⟩
      rw [← hs] at hrow
      have hcl : ((P.drop k).take 64).length = 64 := by rw [List.length_take, List.length_drop]; omega
      have C := Lib.hid (show Calls Tryd.prog 57 #[.agg #[.int .u32 (I s.a), .int .u32 (I s.b), .int .u32 (I s.c), .int .u32 (I s.d), .int .u32 (I s.e), .int .u32 (I s.f), .int .u32 (I s.g), .int .u32 (I s.h)], .slice (some ⟨g, o + k, none⟩) 64 (c3 - k)] wr.drew
          fun e w' => e = .returned (.agg (R32 (comp s (wds ((P.drop k).take 64) 16)).l).toArray) ∧ Below wr.drew.heap.size wr.drew w' from rblock_all s ((P.drop k).take 64) g (o + k) (c3 - k) wr.drew hcl hby)
      have hfs : (comp s (wds ((P.drop k).take 64) 16)) = foldb iv P (n + 1) := by
        rw [foldb, ← hs, ← hkn, wds_congr ((P.drop k).take 64) (P.drop k) fun i hi => by_take _ _ _ hi]
      rw [hfs] at C
      have d0 := hrow.cell (i := 0) (x := s.a) rfl
      have d1 := hrow.cell (i := 1) (x := s.b) rfl
      have d2 := hrow.cell (i := 2) (x := s.c) rfl
      have d3 := hrow.cell (i := 3) (x := s.d) rfl
      have d4 := hrow.cell (i := 4) (x := s.e) rfl
      have d5 := hrow.cell (i := 5) (x := s.f) rfl
      have d6 := hrow.cell (i := 6) (x := s.g) rfl
      have d7 := hrow.cell (i := 7) (x := s.h) rfl
      have e1 : IntKind.i64.wrap ((k : Int) + 64) = k + 64 := IntWalk.i64_in _ (by omega)
      have q1 : (k : Int) + 64 ≤ c3 := by omega
      have q2 : (k : Int) ≤ k + 64 := by omega
      have q3 : (0 : Int) ≤ (k : Int) + 64 := by omega
      have q4 : ((k : Int) + 64).toNat = k + 64 := by omega
      have q5 : k + 64 ≤ c3 := by omega
      have q6 : k ≤ k + 64 := by omega
      have q7 : k + 64 - k = 64 := by omega
      have q8 : k < c3 := by omega
      have q9 : ¬ c3 = k := by omega
      have hul : (R32 (foldb iv P (n + 1)).l).length = 8 := rfl
      have HS := Lib.hid hs
      have HROW := Lib.hid hrow
      clear hrow hg hpm hkn hS hby hs hcl hfs
      go_wp2_with fail
      go_region_law
        (go_simp; go_at_call 57; (with_reducible refine C.out.mono ?_); rintro e w5 ⟨rfl, hb5⟩; have hr5 := HROW.out.keep (hb5.block _ HROW.out.lt); obtain ⟨hst1, hst2⟩ := st_row8 w5 _ _ _ (foldb iv P (n + 1)).l hr5 rfl rfl; have HR5 := Lib.hid hr5; have HB5 := Lib.hid hb5; clear hr5 hb5)
      all_goals
        have hr6 := HR5.out.setRow (foldb iv P (n + 1)).l
        clear hst1 hst2
        go_wp2_with fail
        go_roundw
        case rel =>
          have hz5 := HB5.out.size
          have hgz := HG.out.size
          refine ⟨n + 1, k + 64, by rw [HKN.out]; omega, rfl, by omega, hr6, ?_⟩
          have hg5 := below_grownBy (show w3.grownBy wr.drew (some (w.heap.size + 1)) from ⟨HG.out.os, HG.out.tape, HG.out.output, HG.out.size, HG.out.block⟩) HB5.out
          exact ⟨hg5.os, hg5.tape, hg5.output, by rw [setRow_size]; exact hg5.size, fun i hi hne => (setRow_other _ _ _ _ (by intro e; exact hne (by rw [e]))).trans (hg5.block i hi hne)⟩
        case measure => simp [intOf]; omega
    · obtain rfl : n = P.length / 64 := by omega
      have hkl : k = P.length := by omega
      have hrs := hrow
      have hbw : Below w.heap.size w wr := below_of_grown HB3.out hg (by omega) (by omega)
      have hr0 := R0.out.keep (hg.block _ (by omega) (by intro e; injection e with e; omega))
      obtain ⟨S, hS⟩ : ∃ S, S = foldb iv P (P.length / 64) := ⟨_, rfl⟩
      rw [← hS] at hrs HFE
      have hzr := hg.size
      have nz : RowB (wr.alloc (.cells (U (flb 32 [])).toArray 23)) wr.heap.size 23 (flb 32 []) := heap_alloc_new wr _
      have hb4 : Below wr.heap.size wr (wr.alloc (.cells (U (flb 32 [])).toArray 23)) := (Below.refl _ _).alloc (Nat.le_refl _) _
      have NZ := Lib.hid nz
      have HB4 := Lib.hid hb4
      have HRS := Lib.hid hrs
      have HR0 := Lib.hid hr0
      have HBW := Lib.hid hbw
      have hf : ¬ (k : Int) < P.length := by omega
      clear hrow hg hpm hkn hrs hbw hr0 hS hb4 hkl
      go_wp2_with (refine store_BS rfl (.tmp 6) (.tmp 24) rfl wr.heap.size (flb 32 []) rfl rfl 23 nz (by simp [flb]) ?_)
      generalize hg4 : wr.alloc _ = W4
      have n4 : RowB W4 wr.heap.size 23 (flb 32 []) := by rw [← hg4]; exact NZ.out
      have hb4 : Below wr.heap.size wr W4 := by rw [← hg4]; exact HB4.out
      clear hg4 NZ HB4 nz
      have hlt0 := HR0.out.lt
      have hlts := HRS.out.lt
      have h4z := hb4.size
      have HS4 := Lib.hid (HRS.out.keep (hb4.block _ hlts))
      have HR4 := Lib.hid (HR0.out.keep (hb4.block _ hlt0))
      have HBW4 := Lib.hid (HBW.out.trans (hb4.mono (by omega)))
      have HN4 := Lib.hid n4
      obtain ⟨W5, hW5⟩ : ∃ W5, W5 = wr := ⟨_, rfl⟩
      subst hW5
      clear n4 hb4 HRS HR0 HBW HB3 RS R0
      go_loopw [7] (fun x wx => ∃ t : Nat, x = .int .i64 t ∧ t ≤ 32 ∧ RowB wx W5.heap.size 23 (flb 32 (dbs S.l t)) ∧ Row wx (w.heap.size + 1) 65 S.l ∧ RowB wx w.heap.size 23 (flb 32 []) ∧ Below w.heap.size w wx) (fun x _ => 32 - (intOf x).toNat)
      case atStart => exact ⟨0, rfl, by omega, HN4.out, HS4.out, HR4.out, HBW4.out⟩
      case round =>
        obtain ⟨t, rfl, ht, hrow, hsr, hr0, hbl⟩ := hrel
        by_cases hlt2 : t < 32
        · have hc := hsr.cell (gw_get S.l (t / 4) (by show t / 4 < 8; omega))
          have h0 := flb_next 32 (dbs S.l t) (by rw [dbs_len]; exact hlt2)
          rw [dbs_len] at h0
          have hc2 := hrow.cell h0
          have hf2 := hrow.frozen t
          have HROW := Lib.hid hrow
          have HSR := Lib.hid hsr
          have HZR := Lib.hid hr0
          have HBL := Lib.hid hbl
          clear hrow hsr hr0 hbl h0
          have b1 : (t : Int) < 32 := by omega
          go_wp2_with fail
          go_roundw
          case rel =>
            refine ⟨t + 1, rfl, by omega, ?_, HSR.out.keep (((Below.refl W5.heap.size wr).setCell (p := ⟨W5.heap.size, t, none⟩) (Nat.le_refl _) _).block _ (by omega)), HZR.out.keep (((Below.refl W5.heap.size wr).setCell (p := ⟨W5.heap.size, t, none⟩) (Nat.le_refl _) _).block _ (by omega)), HBL.out.setCell (show w.heap.size ≤ W5.heap.size by omega) _⟩
            have h := RowB.next HROW.out (by rw [dbs_len]; exact hlt2) (dby S.l t)
            rw [dbs_len, ← dbs_succ] at h
            rw [dby_eq2]
            exact h
          case measure => simp [intOf]; omega
        · obtain rfl : t = 32 := by omega
          have hfin : RowB wr W5.heap.size 23 (dbs S.l 32) := by rw [flb_full _ _ (dbs_len _ 32)] at hrow; exact hrow
          have hr1 := hr0.setRow (dbs S.l 32)
          have HBL := Lib.hid hbl
          have HR1 := Lib.hid hr1
          clear hrow hbl hr1 hsr
          go_wp2_with (first | (refine load_B rfl (.tmp 6) rfl W5.heap.size rfl 23 (dbs S.l 32) hfin (dbs_len _ 32) ?_) | (refine store_B rfl (.tmp 2) (.tmp 41) rfl w.heap.size (flb 32 []) (dbs S.l 32) rfl rfl 23 hr0 (dbs_len _ 32) (by simp [flb]) ?_))
          rw [← HFE.out]
          exact bodyPost_ret (res_B rfl _ _ _ _ _ rfl HR1.out (dbs_len _ 32)) rfl ⟨rfl, below_setRow HBL.out (Nat.le_refl _) _⟩
end Go.Proofs.YtllkkafajchioaaDoor
