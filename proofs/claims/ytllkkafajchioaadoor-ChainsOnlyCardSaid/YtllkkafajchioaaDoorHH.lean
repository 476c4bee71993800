/- Digest: Sum. -/
import Derived.Test.YtllkkafajchioaaDoorHG
namespace Go.Proofs.YtllkkafajchioaaDoor
open Go.RowKit

/-- the hash -/
def tailOf (l : List UInt8) : List UInt8 := padend (l.drop (l.length / 64 * 64)) l.length
def sst (l : List UInt8) : S8 := foldb (foldb iv (l.take (l.length / 64 * 64)) (l.length / 64)) (tailOf l) ((tailOf l).length / 64)
def sha (l : List UInt8) : List UInt8 := dbs (sst l).l 32
theorem sha_len (l : List UInt8) : (sha l).length = 32 := dbs_len _ _
theorem tail_len (l : List UInt8) : (tailOf l).length = (tailOf l).length / 64 * 64 := by
  have h := kpad_eq (l.drop (l.length / 64 * 64)).length
  unfold tailOf
  rw [padend_len]
  omega

theorem Byt.take {w : World} {S : Nat → Prop} {l : List UInt8} {A : Option Addr} {cap : Nat} (h : Byt w S l A cap) (n : Nat) : Byt w S (l.take n) A cap := by
  refine ⟨Nat.le_trans (by rw [List.length_take]; omega) h.1, h.2.1, h.2.2.1, fun hp => ?_⟩
  rw [List.length_take] at hp
  obtain ⟨b, o, e, hS, hc⟩ := h.2.2.2 (by omega)
  refine ⟨b, o, e, hS, fun i u hu => hc i u ?_⟩
  have hi : i < (U (l.take n)).length := by
    by_cases h : i < (U (l.take n)).length
    · exact h
    · rw [List.getElem?_eq_none (by omega)] at hu; cases hu
  rw [U_length, List.length_take] at hi
  rw [U, List.getElem?_map] at hu ⊢
  rw [List.getElem?_take, if_pos (by omega)] at hu
  exact hu
theorem Byt.drop_any {w : World} {S : Nat → Prop} {l : List UInt8} {A : Option Addr} {cap : Nat} (h : Byt w S l A cap) (n : Nat) (hn : n ≤ l.length) : Byt w S (l.drop n) (Option.map (fun x => x.add n) A) (cap - n) := by
  refine ⟨by rw [List.length_drop]; have := h.1; omega, by have := h.2.1; omega, fun e => ?_, fun hp => ?_⟩
  · rcases A with _ | ad
    · have := h.2.2.1 rfl; omega
    · cases e
  · rw [List.length_drop] at hp
    obtain ⟨b, o, rfl, hS, hc⟩ := h.2.2.2 (by omega)
    obtain ⟨b', o', e, h2⟩ := (Byt.drop h n).2.2.2 (by rw [List.length_drop]; omega)
    injection e with e
    injection e with e1 e2
    subst e1 e2
    exact ⟨b, o + n, by simp [Go.WideShapes.add_plain], h2⟩
theorem Byt.drop_end {w : World} {S : Nat → Prop} {l : List UInt8} {A : Option Addr} {n : Nat} (h : Byt w S l A n) : Byt w S (l.drop n) A 0 := by
  have := h.1
  exact ⟨by rw [List.length_drop]; omega, Nat.zero_le _, fun _ => rfl, fun hp => by rw [List.length_drop] at hp; omega⟩
theorem below_of_grown {B sb : Nat} {w w2 w3 : World} (h : Below B w w2) (hg : w2.grownBy w3 (some sb)) (hB : B ≤ w2.heap.size) (hsb : B ≤ sb) : Below B w w3 :=
  h.grown hg hB fun k hk => by injection hk with hk; omega

set_option maxRecDepth 100000 in
set_option maxHeartbeats 1600000 in
theorem sum_all (l : List UInt8) (A : Option Addr) (cap : Nat) (w : World) (hl : Byt w (· < w.heap.size) l A cap) (hk : KR w Kt) :
    Calls Tryd.prog 37 #[.slice A l.length cap] w fun e w' => e = .returned (.agg (U (sha l)).toArray) ∧ Below w.heap.size w w' := by
  have HL := Lib.hid hl
  have HK := Lib.hid hk
  have hlt0 := hk.lt
  have hmx : l.length ≤ 9223372036854775807 := Nat.le_trans hl.1 hl.2.1
  have hcap := hl.1
  have hz : RowB (w.alloc (.cells (U (flb 32 [])).toArray 23)) w.heap.size 23 (flb 32 []) := heap_alloc_new w _
  have HZ := Lib.hid hz
  clear hl hk hz
  go_enter Tryd.func37, Tryd.ntmps37
  go_wp2_with fail
  refine (initial_all _).mono ?_
  rintro e w1 ⟨rfl, hb⟩
  have hb1 : Below w.heap.size w w1 := below_box hb
  have hz1 : w.heap.size < w1.heap.size := by have := hb.size; simp at this; omega
  have hd1 : RowB w1 w.heap.size 23 (flb 32 []) := HZ.out.keep (hb.block _ (by simp))
  have hs1 : Row (w1.alloc (.cells (R32 (fl 8 [])).toArray 66)) w1.heap.size 66 (fl 8 []) := heap_alloc_new w1 _
  have HB1 := Lib.hid hb1
  have HD1 := Lib.hid hd1
  clear hb hb1 hd1
  go_wp2_with (refine store_R rfl 66 (.tmp 3) (.tmp 5) rfl w1.heap.size (fl 8 []) iv.l rfl rfl 66 8 hs1 sz8 rfl rfl ?_)
  obtain ⟨W2, hW2⟩ : ∃ W2, W2 = (w1.alloc (.cells (R32 (fl 8 [])).toArray 66)).setRow w1.heap.size (R32 iv.l).toArray := ⟨_, rfl⟩
  have rs2 : Row W2 w1.heap.size 66 iv.l := by rw [hW2]; exact hs1.setRow _
  have hb12 : Below w1.heap.size w1 W2 := by
    rw [hW2]
    exact below_setRow ((Below.refl _ _).alloc (Nat.le_refl _) _) (Nat.le_refl _) _
  change Calls _ _ _ ((w1.alloc (.cells (R32 (fl 8 [])).toArray 66)).setRow w1.heap.size (R32 iv.l).toArray) _
  rw [← hW2]
  clear hW2 hs1
  have hb2 : Below w.heap.size w W2 := HB1.out.trans (hb12.mono (by omega))
  have hz2 : w1.heap.size < W2.heap.size := rs2.lt
  have HD2 := Lib.hid (HD1.out.keep (hb12.block _ (by omega)))
  have hlt : l.length / 64 * 64 ≤ l.length := by omega
  have C := Lib.hid (each_all iv (l.take (l.length / 64 * 64)) A cap w1.heap.size (l.length / 64) W2 (by rw [List.length_take]; omega)
    ((HL.out.take _).keep fun i hi => ⟨⟨by omega, by omega⟩, hb2.block i hi⟩) (HK.out.keep (hb2.block 0 hlt0)) rs2 (by omega))
  rw [List.length_take, Nat.min_eq_left hlt] at C
  have HB2 := Lib.hid hb2
  clear hb12 hb2 rs2
  refine C.out.mono ?_
  rintro e w3 ⟨rfl, hs3, hg3⟩
  have hb3 := below_of_grown HB2.out hg3 (by omega) (by omega)
  have hz3 := hg3.size
  have HD3 := Lib.hid (HD2.out.keep (hg3.block _ (by omega) (by intro e; injection e; omega)))
  have HS3 := Lib.hid hs3
  have HB3 := Lib.hid hb3
  have HLB := Lib.hid (HL.out.keep (w' := w3) (S' := (· < w.heap.size)) fun i hi => ⟨hi, hb3.block i hi⟩)
  clear hs3 hg3 hb3 C
  obtain ⟨rest, hrest⟩ : ∃ rest, rest = l.drop (l.length / 64 * 64) := ⟨_, rfl⟩
  have hrl : rest.length = l.length - l.length / 64 * 64 := by rw [hrest, List.length_drop]
  have hby1 : Byt w3 (· < w3.heap.size) rest (Option.map (fun x => x.add (l.length / 64 * 64)) A) (cap - l.length / 64 * 64) := by
    rw [hrest]; exact (HLB.out.keep fun i hi => ⟨by omega, rfl⟩).drop_any _ hlt
  have hby2 : cap = l.length / 64 * 64 → Byt w3 (· < w3.heap.size) rest A 0 := fun e => by
    have h := HLB.out
    rw [e] at h
    rw [hrest]; exact (h.keep fun i hi => ⟨by omega, rfl⟩).drop_end
  have CE1 := Lib.hid (ending_all rest _ _ l.length w3 hby1 (by omega) (by omega))
  have CE2 := Lib.hid (fun e => ending_all rest _ _ l.length w3 (hby2 e) (by omega) (by omega))
  rw [hrl] at CE1 CE2
  obtain ⟨P, hP⟩ : ∃ P, P = padend rest l.length := ⟨_, rfl⟩
  rw [← hP] at CE1 CE2
  have HPL := Lib.hid (show P.length = P.length / 64 * 64 by rw [hP, hrest]; exact tail_len l)
  have HSH := Lib.hid (show dbs (foldb (foldb iv (l.take (l.length / 64 * 64)) (l.length / 64)) P (P.length / 64)).l 32 = sha l by rw [hP, hrest]; rfl)
  obtain ⟨s3, hs3⟩ : ∃ s3, s3 = foldb iv (l.take (l.length / 64 * 64)) (l.length / 64) := ⟨_, rfl⟩
  rw [← hs3] at HSH HS3
  clear hrest hrl hby1 hby2 hP hs3
  go_wp2_with fail
  all_goals
    first | (with_reducible refine CE1.out.mono ?_) | (with_reducible refine (CE2.out (by omega)).mono ?_)
    rintro e w4 ⟨v, rfl, ho, hb⟩
    obtain ⟨A4, c4, rfl, hy⟩ := ho.byt
    have hz4 := hb.size
    have hb4 : Below w.heap.size w w4 := HB3.out.trans (hb.mono (by omega))
    have HD4 := Lib.hid (HD3.out.keep (hb.block _ (by omega)))
    have C5 := Lib.hid (each_all s3 P A4 c4 w1.heap.size (P.length / 64) w4 HPL.out (hy.keep fun i hi => ⟨⟨hi.2, by omega⟩, rfl⟩) (HK.out.keep (hb4.block 0 hlt0)) (HS3.out.keep (hb.block _ (by omega))) (by omega))
    have HB4 := Lib.hid hb4
    clear ho hb hy hb4
    go_wp2_with fail
    refine C5.out.mono ?_
    rintro e w5 ⟨rfl, hs5, hg5⟩
    have hz5 := hg5.size
    have HB5 := Lib.hid (below_of_grown HB4.out hg5 (by omega) (by omega))
    have HD5 := Lib.hid (HD4.out.keep (hg5.block _ (by omega) (by intro e; injection e; omega)))
    have C6 := Lib.hid (digest_all _ w1.heap.size w5 hs5)
    rw [HSH.out] at C6
    clear hs5 hg5 C5
    go_wp2_with fail
    refine C6.out.mono ?_
    rintro e w6 ⟨rfl, hb6⟩
    have hd6 := HD5.out.keep (hb6.block _ (by omega))
    have HB6 := Lib.hid (HB5.out.trans (hb6.mono (by omega)))
    have hr6 := hd6.setRow (sha l)
    clear hb6 C6
    go_wp2_with (refine store_B rfl (.tmp 2) (.tmp 23) rfl w.heap.size (flb 32 []) (sha l) rfl rfl 23 hd6 (sha_len l) (by simp [flb]) ?_)
    exact bodyPost_ret (res_B rfl _ _ _ _ _ rfl hr6 (sha_len l)) rfl ⟨rfl, below_setRow HB6.out (Nat.le_refl _) _⟩
end Go.Proofs.YtllkkafajchioaaDoor
