/- Proved: for every slice of values that can be read as data (none holds itself), in whatever memory and on every schedule, CodecLists returns true and its argument reads afterwards as before; there is no further condition. -/
import Derived.Test.YtomiacedailmaaaDF
import Derived.BigQuiet
namespace Go.Proofs.Ytomiacedailmaaa
open Go.ChangeShapes Go.WideShapes Go.ChangeAt Go.RowKit

theorem below_drewN' {B : Nat} {a w : World} (h : Below B a w) (n : Nat) : Below B a (w.drewN n) := ⟨h.os, h.tape, h.output, h.size, h.block⟩
/-- the encodings of the first k, one after the other -/
def pre (f : F) (k : Nat) : List UInt8 := (f.toList.take k).flatMap V.enc
theorem pre_zero (f : F) : pre f 0 = [] := by simp [pre]
theorem pre_succ {f : F} {k : Nat} {u : V} (h : f.toList[k]? = some u) : pre f (k + 1) = pre f k ++ u.enc := by rw [pre, take_at h]; simp [pre]
theorem pre_all (f : F) : pre f f.len = f.toList.flatMap V.enc := by rw [pre, ← F.len_toList, List.take_length]

set_option maxRecDepth 100000 in
set_option maxHeartbeats 3200000 in
theorem lists_all (f : F) (A : Option Addr) (cap : Nat) (w : World) (hv : Sl w (· < w.heap.size) f A cap) :
    Calls Try.prog 8 #[.slice A f.len cap] w fun e w' => e = .returned (.bool true) ∧ Below w.heap.size w w' := by
  have HV := Lib.hid hv
  clear hv
  have hm := HV.out.2.1
  have hm2 := HV.out.1
  unfold maxLen at hm
  go_enter Try.func8, Try.ntmps8
  go_wp2_with fail
  refine (sane_all w).mono ?_
  rintro e w1 ⟨rfl, hb1⟩
  go_wp2_with fail
  refine (lfew_all f w.heap.size A cap w1 (HV.out.below hb1) hb1.size).mono ?_
  rintro e w2 ⟨rfl, hb'⟩
  have hb2 : Below w.heap.size w w2 := hb1.trans (hb'.mono hb1.size)
  clear hb' hb1
  obtain ⟨q, hq⟩ : ∃ q, q = allFew f.toList := ⟨_, rfl⟩
  rw [← hq]
  cases q with
  | false =>
    clear hq
    go_wp2_with fail
    go_ret
    exact ⟨rfl, hb2⟩
  | true =>
  by_cases h20 : 20 < f.len
  · clear hq
    go_wp2_with fail
    go_ret
    exact ⟨rfl, hb2⟩
  have hlen : f.len ≤ 20 := by omega
  obtain ⟨bd, be, bk⟩ := vl_bd hq.symm hlen
  have HFEW : Hid (∀ u ∈ f.toList, u.depth ≤ 21 ∧ u.enc.length ≤ 60000) := fun u hu => allFew_mem hq.symm hu
  have HBK : Hid (∀ k, (pre f k).length ≤ 1200000) := bk
  have LST := Lib.hid (fun ww (h : Below w.heap.size w ww) => encode_all (vl f) w.heap.size A cap ww ⟨(⟨by decide, by decide, by decide, by decide, Nat.zero_le _⟩ : Fits 3 0 ⟨#[]⟩), HV.out.below h⟩ h.size (by omega) (by omega))
  clear hq h20 bk
  go_wp2_with fail
  go_loopw [3, 4, 5, 31] (fun o1 o2 s i wr => ∃ k : Nat, k ≤ f.len ∧ i = .int .i64 k ∧ Own wr w.heap.size o1 (pre f k) ∧ OwnV wr w.heap.size o2 (List.replicate k ez) ∧ (∀ g, o1.ownBlock = some g → o2.ownBlock ≠ some g) ∧
      s = .int .i64 (pre f k).length ∧ Below w.heap.size w wr ∧ (∀ u ∈ f.toList.take k, u.chk = 0)) (fun _ _ _ i _ => f.len - (intOf i).toNat)
  case atStart => exact ⟨0, Nat.zero_le _, rfl, by rw [pre_zero]; exact Own.nil _ _, World.ownsRow_nil _ _ _ _, (fun g hg => by cases hg), by rw [pre_zero]; rfl, hb2, (fun u hu => by simp at hu)⟩
  case round =>
    obtain ⟨k, hk, rfl, ho1, ho2, hne, rfl, hb, hall⟩ := hrel
    have HO1 := Lib.hid ho1
    have HO2 := Lib.hid ho2
    have HNE := Lib.hid hne
    have HALL := Lib.hid hall
    clear ho1 ho2 hne hall
    by_cases hlt : k < f.len
    · obtain ⟨b, o, u, A', cap', rfl, hS, hu, hrd, h0, h1, h2, h3⟩ := (HV.out.below hb).at_ hlt
      have HU := Lib.hid hu
      have hum := List.mem_of_getElem? hu
      obtain ⟨fd, fe⟩ := HFEW.out u hum
      have HUM := Lib.hid hum
      clear hu hum
      have hzr := hb.size
      go_wp2_with fail
      obtain ⟨W1, hW1⟩ : ∃ W1, W1 = wr.alloc (.cells #[.int .i64 u.k, .int .i64 u.n, .string u.s, .slice A' u.l.len cap'] 24) := ⟨_, rfl⟩
      rw [← hW1]
      have x1 : W1.heap[wr.heap.size]? = some (.cells #[.int .i64 u.k, .int .i64 u.n, .string u.s, .slice A' u.l.len cap'] 24 (0, 0)) := by rw [hW1]; exact heap_alloc_new wr _
      have hz1 : wr.heap.size + 1 ≤ W1.heap.size := by rw [hW1]; simp
      have hb1 : Below wr.heap.size wr W1 := by rw [hW1]; exact (Below.refl _ _).alloc (Nat.le_refl _) _
      have HR1 := Lib.hid (hrd.keep (S' := (· < w.heap.size)) fun i hi => ⟨hi, hb1.block i (by omega)⟩)
      clear hW1 h0 h1 h2 h3 hrd
      refine (encode_all u w.heap.size A' cap' W1 HR1.out (by omega) (by omega) (by omega)).mono ?_
      rintro e w3 ⟨bv, rfl, ho, hb'⟩
      have HB := Lib.hid ho
      have x3 := (hb'.block _ (by omega)).trans x1
      have hb3 : Below wr.heap.size wr w3 := hb1.trans (hb'.mono (by omega))
      have hz3 := hb3.size
      have HR3 := Lib.hid (HR1.out.keep (S' := (· < w.heap.size)) fun i hi => ⟨hi, hb'.block i (by omega)⟩)
      obtain ⟨Ab, capb, rfl, _⟩ := ho.byt
      have HZ13 : Hid (W1.heap.size ≤ w3.heap.size) := hb'.size
      clear ho hb' x1 hb1 HR1
      obtain ⟨p0, p1, p2, p3⟩ := box_cells x3
      go_wp2_with fail
      refine (size_all u w.heap.size A' cap' w3 HR3.out (by omega) (by omega) (by omega)).mono ?_
      rintro e w4 ⟨rfl, hb'⟩
      have hb4 : Below wr.heap.size wr w4 := hb3.trans (hb'.mono hz3)
      have hz4 := hb4.size
      have HB4 := Lib.hid (HB.out.below hb' (Nat.le_refl _))
      clear hb' hb3 x3 p0 p1 p2 p3 HR3 HB
      have hbw4 : Below w.heap.size w w4 := hb.trans (hb4.mono hzr)
      by_cases hc : u.chk = 0
      · have HC : Hid (u.chk = 0) := hc
        have HOUT : Hid (u.out = u.enc) := by show u.out = u.enc; rw [V.out, if_pos hc]
        rw [HOUT.out] at HB4
        rw [HOUT.out, HC.out]
        clear hc
        have hkb := HBK.out k
        have hpu := enc_pos u
        have HO14 := Lib.hid (HO1.out.below hb4 (Nat.le_refl _))
        have hzw := hbw4.size
        go_wp2_with (at_builtin; refine app_own_at rfl (.tmp 68) (.tmp 69) rfl w.heap.size W1.heap.size u3 _ (pre f k) u.enc rfl rfl HO14.out HB4.out hpu (by omega) (by omega) ?_; intro v5 w5 ho5 hg5 hat5; obtain ⟨A5, n5, cap5, rfl⟩ := ho5.slice)
        have HO5 := Lib.hid ho5
        have hbw5 : Below w.heap.size w w5 := below_own hbw4 hg5 HO14.out (Nat.le_refl _) hzw
        have hz45 := hg5.size
        have hlt2 : ∀ g, u4.ownBlock = some g → w.heap.size ≤ g ∧ g < wr.heap.size := fun g hg => World.ownsRow.lt HO2.out g hg
        have hd5 : ∀ g, (Value.slice A5 n5 cap5).ownBlock = some g → u4.ownBlock ≠ some g := fun g hg h4 => by
          rcases hat5 with e | e
          · exact HNE.out g (by rw [← e]; exact hg) h4
          · rw [hg] at e
            injection e with e
            have := (hlt2 g h4).2
            omega
        have HO25 : Hid (OwnV w5 w.heap.size u4 (List.replicate k ez)) := HO2.out.kept fun g hg => (hg5.block g (by have := (hlt2 g hg).2; omega) (fun e => HNE.out g e.symm hg)).trans (hb4.block g (hlt2 g hg).2)
        have HLT2 := Lib.hid hlt2
        have HD5 := Lib.hid hd5
        have hz5w := hbw5.size
        clear ho5 hg5 hat5 hlt2 hd5 HO14 HB4 hb4 hbw4
        refine (rInt_all _ _).mono ?_
        rintro e w6 ⟨rfl, hb6, _⟩
        have hz56 := hb6.size
        have HO17 : Hid (Own (w6.alloc (.cells #[.int .i64 1, .int .i64 0, .string ⟨#[]⟩, .slice none 0 0] 24)) w.heap.size (.slice A5 n5 cap5) (pre f k ++ u.enc)) := World.ownsRow.alloc (HO5.out.below hb6 (Nat.le_refl _)) _
        have HO27 : Hid (OwnV (w6.alloc (.cells #[.int .i64 1, .int .i64 0, .string ⟨#[]⟩, .slice none 0 0] 24)) w.heap.size u4 (List.replicate k ez)) := World.ownsRow.alloc (HO25.out.kept fun g hg => hb6.block g (World.ownsRow.lt HO25.out g hg).2) _
        have HSRC := Lib.hid (heap_alloc_new w6 (.cells #[.int .i64 1, .int .i64 0, .string ⟨#[]⟩, .slice none 0 0] 24))
        have hbw6 : Below w.heap.size w (w6.alloc (.cells #[.int .i64 1, .int .i64 0, .string ⟨#[]⟩, .slice none 0 0] 24)) := (hbw5.trans (hb6.mono hz5w)).alloc (by omega) _
        have HBW6 := Lib.hid hbw6
        have HOL5 : Hid (∀ g, (Value.slice A5 n5 cap5).ownBlock = some g → g < w5.heap.size) := fun g hg => (World.ownsRow.lt HO5.out g hg).2
        clear hb6 hbw6 HO25 hbw5 HO5
        go_wp2_with (at_builtin; refine app_val rfl (.tmp 71) (.tmp 73) rfl w.heap.size w6.heap.size u4 (List.replicate k ez) ez rfl rfl HO27.out HSRC.out (by simp; omega) (by simp; omega) ?_; intro v8 w8 ho8 hg8 hat8; obtain ⟨A8, n8, cap8, rfl⟩ := ho8.slice)
        go_roundw
        case rel =>
          refine ⟨k + 1, by omega, rfl, ?_, by rw [List.replicate_succ']; exact ho8, ?_, ?_, ?_, ?_⟩
          · rw [pre_succ HU.out]
            exact HO17.out.kept fun g hg => hg8.block g (by have := HOL5.out g hg; simp; omega) (fun e => HD5.out g hg e.symm)
          · intro g hg h8
            rcases hat8 with e | e
            · exact HD5.out g hg (by rw [← e]; exact h8)
            · rw [h8] at e
              injection e with e
              have := HOL5.out g hg
              simp at e
              omega
          · rw [pre_succ HU.out, List.length_append]
            rfl
          · exact HBW6.out.grown hg8 (by simp; omega) fun g hg => (HLT2.out g hg).1
          · intro x hx
            rw [take_at HU.out] at hx
            rcases List.mem_append.1 hx with hx | hx
            · exact HALL.out x hx
            · rw [List.mem_singleton.1 hx]
              exact HC.out
        case measure => simp [intOf]; omega
      · have hne : (u.chk != 0) = true := by simpa using hc
        have hne2 : (u.chk == 0) = false := by simpa using hc
        have HBAD := Lib.hid (vl_bad HUM.out hc)
        go_wp2_with fail
        refine (rList_all _ _ _ _).mono ?_
        rintro e w5 ⟨rfl, hb', _⟩
        have hbw5 : Below w.heap.size w w5 := hbw4.trans (hb'.mono hbw4.size)
        have L := Lib.hid (LST.out w5 hbw5)
        have hne3 : ((vl f).chk != 0) = true := by simpa using HBAD.out
        clear hb' hbw4
        go_wp2_with fail
        refine L.out.mono ?_
        rintro e w6 ⟨bv, rfl, ho, hb'⟩
        obtain ⟨Ac, capc, rfl, _⟩ := ho.byt
        have hbw6 : Below w.heap.size w w6 := hbw5.trans (hb'.mono hbw5.size)
        clear ho hb' hbw5 L
        go_wp2_with fail
        go_ret
        exact ⟨rfl, hbw6⟩
    · obtain rfl : k = f.len := by omega
      have hall : ∀ u ∈ f.toList, u.chk = 0 := fun u hu => HALL.out u (by rw [← F.len_toList, List.take_length]; exact hu)
      have HG := Lib.hid (vl_good hall)
      have HPA := Lib.hid (pre_all f)
      clear hall
      go_wp2_with fail
      refine (rList_all _ _ _ _).mono ?_
      rintro e w5 ⟨rfl, hb', _⟩
      have hbw5 : Below w.heap.size w w5 := hb.trans (hb'.mono hb.size)
      have hb5 : Below wr.heap.size wr w5 := hb'
      have L := Lib.hid (LST.out w5 hbw5)
      clear hb'
      go_wp2_with fail
      refine L.out.mono ?_
      rintro e w6 ⟨bv, rfl, ho, hb'⟩
      have HO := Lib.hid ho
      obtain ⟨Ac, capc, rfl, _⟩ := ho.byt
      have hbw6 : Below w.heap.size w w6 := hbw5.trans (hb'.mono hbw5.size)
      have hb6 : Below wr.heap.size wr w6 := hb5.trans (hb'.mono hb5.size)
      clear ho hb' hbw5 hb5 L
      rcases HG.out with hc | hc
      · obtain ⟨m, hnl⟩ : ∃ m, m = 1 + (numf 10 f.len).length := ⟨_, rfl⟩
        have hnl1 : m ≤ 11 := by rw [hnl]; have := numf_len 10 f.len; omega
        have hnl2 : 2 ≤ m := by rw [hnl]; have : 0 < (numf 10 f.len).length := numf_pos 9 f.len; omega
        obtain ⟨P, hP⟩ : ∃ P, P = pre f f.len := ⟨_, rfl⟩
        have hPb : P.length ≤ 1200000 := by rw [hP]; exact HBK.out _
        obtain ⟨C, hC⟩ : ∃ C, C = (vl f).out := ⟨_, rfl⟩
        have hCe : C = 3 :: (numf 10 f.len ++ P) := by rw [hC, V.out, if_pos hc, vl_enc, hP, HPA.out]
        have hCl : C.length = m + P.length := by rw [hCe, List.length_cons, List.length_append, hnl]; omega
        have HCD : Hid (C.drop m = P) := by
          show C.drop m = P
          rw [hCe, hnl, Nat.add_comm, List.drop_succ_cons, List.drop_left]
        have HO16 := Lib.hid (HO1.out.below hb6 (Nat.le_refl _))
        rw [← hP] at HO16 ⊢
        rw [← hC] at HO ⊢
        rw [hc]
        have hZ := zs_is f.len
        rw [← hnl] at hZ
        have HO26 : Hid (OwnV w6 w.heap.size u4 (List.replicate f.len ez)) := HO2.out.kept fun g hg => hb6.block g (World.ownsRow.lt HO2.out g hg).2
        obtain ⟨Az, cz, rfl, hsl⟩ := OwnV.sl (S := (· < wr.heap.size)) HO26.out (fun g hg => (World.ownsRow.lt HO2.out g hg).2) (fun e he => by rw [List.eq_of_mem_replicate he]; exact rdv_leaf ⟨by decide, by decide, by decide, by decide, Nat.zero_le _⟩)
        rw [ez_map] at hsl
        obtain ⟨Aw, capw, rfl, hyw⟩ := HO16.out.byt
        obtain ⟨Ac2, capc2, hAc, hyc⟩ := HO.out.byt
        injection hAc with e1 _ e2
        subst e1 e2
        have HYW := Lib.hid (hyw.toB (B := w6.heap.size) fun i hi => hi.2)
        have HYC := Lib.hid (hyc.toB (B := w6.heap.size) fun i hi => hi.2)
        have hzr6 := hb6.size
        have SZ : Hid (∀ ww, Below w6.heap.size w6 ww → Calls Try.prog 14 #[.agg #[.int .i64 3, .int .i64 0, .string ⟨#[]⟩, .slice Az f.len cz]] ww fun e w' => e = .returned (.tuple #[.int .i64 ((m + 2 * f.len : Nat) : Int), .int .i64 0]) ∧ Below ww.heap.size ww w') := fun ww h => by
          have := size_all (vl (zs f.len)) wr.heap.size Az cz ww ⟨(⟨by decide, by decide, by decide, by decide, Nat.zero_le _⟩ : Fits 3 0 ⟨#[]⟩), hsl.keep fun i hi => ⟨hi, h.block i (by omega)⟩⟩ (by have := h.size; omega) (by omega) (by omega)
          rw [show (vl (zs f.len)).out = (vl (zs f.len)).enc from by rw [V.out, if_pos hZ.1], hZ.1, hZ.2.2] at this
          change Calls Try.prog 14 #[.agg #[.int .i64 3, .int .i64 0, .string ⟨#[]⟩, .slice Az (zs f.len).len cz]] ww _ at this
          rw [zs_len] at this
          exact this
        rw [show (List.replicate f.len ez).length = f.len from List.length_replicate]
        clear hsl hyw hyc hZ hCe hC hP HO16 HO26 HO HO1 HO2 HNE hc hb6 hnl
        go_wp2_with fail
        refine (rList_all _ _ _ _).mono ?_
        rintro e w7 ⟨rfl, hb7, _⟩
        have S := Lib.hid (SZ.out w7 hb7)
        go_wp2_with fail
        refine S.out.mono ?_
        rintro e w8 ⟨rfl, hb'⟩
        have hb8 : Below w6.heap.size w6 w8 := hb7.trans (hb'.mono hb7.size)
        have hbw8 : Below w.heap.size w w8 := hbw6.trans (hb8.mono hbw6.size)
        clear hb' hb7 hbw6 S SZ
        go_wp2_with fail
        obtain ⟨bc, oc, rfl, _, _⟩ := HYC.out.2.2 (by omega)
        have hkc := HYC.out.1
        have hkc2 := HYC.out.2.1
        unfold maxLen at hkc2
        have hcw := fun k => conv_str (w := w8.drewN k) (n := P.length) (HYW.out.keep (S' := (· < w6.heap.size)) fun i hi => ⟨hi, hb8.block i hi⟩) rfl
        have e5 : decide (2 ≤ (m : Int)) = true := decide_eq_true (by omega)
        have e0 : (m : Int) ≤ m + P.length := by omega
        have e6 : (m : Int) ≤ ((m + P.length : Nat) : Int) := by omega
        have e1 : IntKind.i64.wrap (2 * (f.len : Int)) = 2 * f.len := IntWalk.i64_in _ (by omega)
        have e2 : IntKind.i64.wrap ((m : Int) + 2 * f.len - 2 * f.len) = m := by
          rw [show (m : Int) + 2 * f.len - 2 * f.len = m from by omega]
          exact IntWalk.i64_in _ (by omega)
        have e3 : IntKind.i64.wrap ((m : Int)) = m := IntWalk.i64_in _ (by omega)
        have e4 : IntKind.i64.wrap ((m : Int) + P.length) = m + P.length := IntWalk.i64_in _ (by omega)
        by_cases hcm : capc = m
        · have hPz : P = [] := List.eq_nil_of_length_eq_zero (by clear e1 e2 e3 e4; omega)
          clear e1 e2 e3 e4
          subst hPz
          have hcx := fun k => conv_str (w := w8.drewN k) (S := fun _ => True) (l := []) (A := some ⟨bc, oc, none⟩) (n := 0) (cap := 0) ⟨Nat.le_refl _, Nat.zero_le _, fun h => absurd h (by simp)⟩ rfl
          have hcy := fun k => conv_str (w := w8.drewN k) (S := fun _ => True) (l := []) (A := Aw) (n := 0) (cap := capw) ⟨Nat.zero_le _, HYW.out.2.1, fun h => absurd h (by simp)⟩ rfl
          have e1 : IntKind.i64.wrap (2 * (f.len : Int)) = 2 * f.len := IntWalk.i64_in _ (by omega)
          have e2 : IntKind.i64.wrap ((m : Int) + 2 * f.len - 2 * f.len) = m := by
            rw [show (m : Int) + 2 * f.len - 2 * f.len = m from by omega]
            exact IntWalk.i64_in _ (by omega)
          have e3 : IntKind.i64.wrap ((m : Int)) = m := IntWalk.i64_in _ (by omega)
          go_quiet (fail)
          clear e1 e2 e3 e5
          go_wp2
          go_ret
          exact ⟨rfl, below_drewN' hbw8 _⟩
        · have hcv := fun k => conv_str (w := w8.drewN k) (n := P.length) ((HYC.out.drop m).keep (S' := (· < w6.heap.size)) fun i hi => ⟨hi, hb8.block i hi⟩) (by rw [HCD.out])
          rw [HCD.out] at hcv
          go_quiet (fail)
          clear e1 e2 e3 e4 e5
          go_wp2
          go_ret
          exact ⟨rfl, below_drewN' hbw8 _⟩
      · rw [hc]
        go_wp2_with fail
        go_ret
        exact ⟨rfl, hbw6⟩

set_option maxRecDepth 100000 in
theorem lists_lifted (os : Os) (started : os.Started) (H : Type) (enc : TypeId × Value → H) :
    ReturnsInHanded {} Try.checked os 8 .any (Rows.codecListsSpec.pre6 enc Try.prog Try.f8 Rows.codecListsRow.domain false) (Rows.codecListsSpec.post enc Try.prog Try.f8 false true false false) := by
  refine returnsInHanded_of_change (C := Try.checked) prog_own started (by kernel_rfl) Try.func8
    (ChangeSpec.witness6 (enc := enc) (C := Try.checked) false ⟨#[], #[.slice none 0 0], []⟩ 8 (by kernel_rfl) (by kernel_rfl) (by kernel_rfl) (by kernel_rfl)) ?_
  intro W base args ds gs before hval0 hW _ _
  have hval : ∀ (j : Nat) t v, Try.f8.params[j]? = some t → args[j]? = some v → Value.okWide Try.prog W .any base t v := hval0
  have hW' : DataW.Whole enc Try.prog Try.f8.params.toList Rows.codecListsSpec.vars false W args.toList ds gs before := hW
  obtain ⟨p, q, hA0, _, _, _, _⟩ := hW
  have hA : DataW.TrodAll enc Try.prog W 0 (fun _ => true) true Try.f8.params.toList args.toList ds p := hA0
  rw [Try.params8] at hA hval
  obtain ⟨v0, d0, rfl, rfl, h0⟩ := trodAll_one hA
  obtain ⟨x0, A0, c0, rfl, hx0⟩ := arg_vals (hval 0 22 v0 rfl rfl) h0
  refine (lists_all x0 A0 c0 W hx0).mono fun e W' ⟨he, hb⟩ => ?_
  subst he
  exact ⟨_, rfl, law_post rfl (fun ds hd => by
    match ds, hd with
    | [_], _ => rfl) (by kernel_rfl) (by
    rw [Try.params8]
    intro t ht
    simp only [List.mem_cons, List.not_mem_nil, or_false] at ht
    rcases ht with rfl
    · exact p_vals) rfl hW' hb⟩

theorem lists_holds : Rows.CodecListsSaid :=
  OpenClaim.holds_of_wide 8 Try.f8 rfl rfl rfl rfl rfl rfl rfl ⟨rfl, rfl, rfl, rfl, rfl⟩ rfl rfl rfl rfl rfl (by kernel_rfl) Try.func8 (by kernel_rfl)
    (of_decide_eq_true (by kernel_rfl)) (by unfold Func.isWrapper; first | (rw [if_pos (by decide +kernel)]; kernel_rfl) | (rw [if_neg (by decide +kernel)]; exact ⟨rfl, rfl⟩))
    (fun os started H enc _ => lists_lifted os started H enc)
end Go.Proofs.Ytomiacedailmaaa
