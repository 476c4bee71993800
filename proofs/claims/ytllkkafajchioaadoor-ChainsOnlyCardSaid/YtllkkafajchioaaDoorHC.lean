/- Digest: the schedule of a block. -/
import Derived.Test.YtllkkafajchioaaDoorHB
import Derived.Laws.CopyOwn
import Derived.StillTailTactics
namespace Go.Proofs.YtllkkafajchioaaDoor
open Go.RowKit

def gw (l : List UInt32) (i : Nat) : UInt32 := l.getD i 0
def s0 (x : UInt32) : UInt32 := rr 7 x ^^^ rr 18 x ^^^ (x >>> 3)
def s1 (y : UInt32) : UInt32 := rr 17 y ^^^ rr 19 y ^^^ (y >>> 10)
/-- the next word, behind n + 16 words -/
def sx (l : List UInt32) (n : Nat) : UInt32 := gw l n + s0 (gw l (n + 1)) + gw l (n + 9) + s1 (gw l (n + 14))
def sch (first : List UInt32) : Nat → List UInt32
  | 0 => first
  | n + 1 => sch first n ++ [sx (sch first n) n]
theorem sch_len (first : List UInt32) (n : Nat) : (sch first n).length = first.length + n := by
  induction n with
  | zero => rfl
  | succ n ih => rw [sch, List.length_append, ih]; rfl

theorem I_d3 (x : UInt32) : I x / (8 : Int) = I (x >>> 3) := by
  exact I_shr x 3 (by omega)
theorem I_d10 (x : UInt32) : I x / (1024 : Int) = I (x >>> 10) := by
  exact I_shr x 10 (by omega)

theorem I_sum4 (a b c d : UInt32) : (I a + I b + I c + I d) % 4294967296 = I (a + b + c + d) := by
  unfold I; rw [UInt32.toNat_add, UInt32.toNat_add, UInt32.toNat_add]; omega
theorem I_sx (a x c y : UInt32) : (I a + bits .xor .u32 (bits .xor .u32 (I (rr 7 x)) (I (rr 18 x))) (I x / 8) + I c + bits .xor .u32 (bits .xor .u32 (I (rr 17 y)) (I (rr 19 y))) (I y / 1024)) % 4294967296 = I (a + s0 x + c + s1 y) := by
  rw [I_d3, I_d10, I_xor, I_xor, I_xor, I_xor, I_sum4]
  rfl

theorem Row.at_ {w : World} {b n : Nat} {t : TypeId} {l : List UInt32} (h : Row w b t (fl n l)) {i : Nat} (hi : i < l.length) : w.cell? ⟨b, i, none⟩ = some (.int .u32 (I (gw l i))) :=
  h.cell (fl_get n l i hi)

theorem fl_splice (l : List UInt32) (h : l.length = 16) : splice (R32 (fl 64 [])) 0 (R32 l) = R32 (fl 64 l) := by
  unfold splice fl R32
  simp [h]

set_option maxRecDepth 100000 in
set_option maxHeartbeats 1600000 in
theorem schedule_all (first : List UInt32) (w : World) (hf : first.length = 16) :
    Calls Tryd.prog 53 #[.agg (R32 first).toArray] w fun e w' => e = .returned (.agg (R32 (sch first 48)).toArray) ∧ Below w.heap.size w w' := by
  have hw1 : ∀ W1, (w.alloc (.cells (R32 first).toArray 72)).alloc (.cells (R32 (fl 64 [])).toArray 75) = W1 → Row W1 w.heap.size 72 first ∧ Row W1 (w.heap.size + 1) 75 (fl 64 []) ∧ Below w.heap.size w W1 ∧ W1.heap.size = w.heap.size + 2 := by
    rintro W1 rfl
    refine ⟨?_, ?_, ((Below.refl _ _).alloc (Nat.le_refl _) _).alloc (by simp) _, by simp⟩
    · exact (Below.heap_alloc _ _ _ (by simp)).trans (heap_alloc_new w _)
    · have := heap_alloc_new (w.alloc (.cells (R32 first).toArray 72)) (.cells (R32 (fl 64 [])).toArray 75)
      simp only [World.size_alloc] at this
      exact this
  have HW1 := Lib.hid hw1
  clear hw1
  go_enter Tryd.func53, Tryd.ntmps53
  go_wp2_with fail
  generalize hW1 : (w.alloc (Obj.cells (R32 first).toArray 72)).alloc _ = W1
  obtain ⟨hr0, hr1, hb1, hz1⟩ := HW1.out W1 hW1
  clear hW1 HW1
  have HB1 := Lib.hid hb1
  have HR0 := Lib.hid hr0
  have HR1 := Lib.hid hr1
  have hsrc : ∀ j v, (R32 first)[j]? = some v → W1.drew.cell? ((⟨w.heap.size, 0, none⟩ : Addr).add j) = some v := fun j v hj => by
    have hadd : (⟨w.heap.size, 0, none⟩ : Addr).add j = ⟨w.heap.size, j, none⟩ := by unfold Addr.add; split <;> simp_all
    have h0 : W1.drew.heap[w.heap.size]? = some (.cells (R32 first).toArray 72 (0, 0)) := hr0
    rw [hadd, cell_of_row W1.drew _ _ _ _ _ h0]
    simpa using hj
  have HSRC := Lib.hid hsrc
  have hdr : Below w.heap.size w W1.drew := hb1.drew
  have HDR := Lib.hid hdr
  clear hb1 hr0 hr1 hsrc hdr
  have hone : ∀ v ∈ R32 first, v.oneCell' = true := fun v hv => by
    simp only [R32, List.mem_map] at hv
    obtain ⟨x, _, rfl⟩ := hv
    rfl
  have HONE := Lib.hid hone
  have HLEN := Lib.hid (show (R32 first).length = Nat.min 16 64 by rw [R32_len, hf]; rfl)
  have HFIT := Lib.hid (show 0 + (R32 first).length ≤ (R32 (fl 64 [])).length by rw [R32_len, R32_len, hf, fl_len _ _ (by simp)]; omega)
  clear hone
  go_region_law
    (refine step_copy_splice rfl (.tmp 6) (.tmp 7) 82 82 rfl 64 Tryd.underlying82 (by kernel_rfl) _ _ _ _ _ _ rfl rfl (w.heap.size + 1) 0 (R32 (fl 64 [])) 75 HR1.out (R32 first) HLEN.out (fun _ => ⟨rfl, _, rfl, HSRC.out⟩) HFIT.out HONE.out w.heap.size w HDR.out (by omega) ?_; intro w4 hg4 hb4; have HB4 := Lib.hid hb4; clear hb4)
  have hr4 : Row w4 (w.heap.size + 1) 75 (fl 64 first) := by
    have := hg4.out
    rw [fl_splice first hf] at this
    exact this
  have hz4 : w.heap.size + 2 ≤ w4.heap.size := hr4.lt
  have HR4 := Lib.hid hr4
  clear hg4 hr4
  go_wp2_with fail
  go_loopw [3] (fun x wr => ∃ n : Nat, x = .int .i64 ((n : Int) + 16) ∧ n ≤ 48 ∧ Row wr (w.heap.size + 1) 75 (fl 64 (sch first n)) ∧ Below w.heap.size w wr) (fun x _ => 64 - (intOf x).toNat)
  case atStart => exact ⟨0, rfl, by omega, HR4.out, HB4.out⟩
  case round =>
    obtain ⟨n, rfl, hn, hrow, hbl⟩ := hrel
    have hsl : (sch first n).length = n + 16 := by rw [sch_len, hf]; omega
    by_cases hlt : n < 48
    · have c1 := hrow.at_ (i := n + 1) (by omega)
      have c14 := hrow.at_ (i := n + 14) (by omega)
      have c0 := hrow.at_ (i := n) (by omega)
      have c9 := hrow.at_ (i := n + 9) (by omega)
      have HROW := Lib.hid hrow
      have HBL := Lib.hid hbl
      have HSL := Lib.hid hsl
      clear hrow hbl hsl
      go_wp2_with fail
      go_quiet (fail)
      obtain ⟨W5, hW5⟩ : ∃ W5, W5 = wr.drewN nq := ⟨_, rfl⟩
      rw [← hW5]
      have r5 : Row W5 (w.heap.size + 1) 75 (fl 64 (sch first n)) := by rw [hW5]; exact HROW.out
      have b5 : Below w.heap.size w W5 := by rw [hW5]; exact below_drewN HBL.out _
      clear c0 c1 c9 c14 hW5
      have c0 := r5.at_ (i := n) (by rw [HSL.out]; omega)
      have c9 := r5.at_ (i := n + 9) (by rw [HSL.out]; omega)
      have hnx := fl_next 64 (sch first n) (by rw [HSL.out]; omega)
      rw [HSL.out] at hnx
      have ca := r5.cell hnx
      have fa := r5.frozen (n + 16)
      have R5 := Lib.hid r5
      have B5 := Lib.hid b5
      clear r5 b5 hnx
      have e1 : IntKind.i64.wrap (n : Int) = n := IntWalk.i64_in _ (by omega)
      have e2 : IntKind.i64.wrap ((n : Int) + 9) = n + 9 := IntWalk.i64_in _ (by omega)
      have e3 : IntKind.i64.wrap ((n : Int) + 16 - 7) = n + 9 := by rw [show (n : Int) + 16 - 7 = n + 9 by omega]; exact e2
      have b1 : (n : Int) < 64 := by omega
      have b2 : (n : Int) + 9 < 64 := by omega
      have b3 : (n : Int) + 16 < 64 := by omega
      have b4 : (0 : Int) ≤ (n : Int) + 9 := by omega
      have b5 : (0 : Int) ≤ (n : Int) + 16 := by omega
      have t9 : ((n : Int) + 9).toNat = n + 9 := by omega
      have t16 : ((n : Int) + 16).toNat = n + 16 := by omega
      go_wp2_with fail
      go_still_tail 29, (by kernel_rfl)
      still_call (ror_all _ 7 _ (by omega) (by omega))
      repeat still_step
      still_call (ror_all _ 18 _ (by omega) (by omega))
      repeat still_step
      still_call (ror_all _ 17 _ (by omega) (by omega))
      repeat still_step
      still_call (ror_all _ 19 _ (by omega) (by omega))
      repeat still_step
      refine wpStill_nil ?_
      change wpList _ _ _ _ _ W5.drew
      go_wp2_with fail
      go_roundw
      case rel =>
        refine ⟨n + 1, rfl, by omega, ?_, ?_⟩
        · have h := Row.next (w := W5.drew) R5.out (by rw [HSL.out]; omega) (sx (sch first n) n)
          rw [HSL.out] at h
          rw [I_sx]
          exact h
        · exact (B5.out.setCell (by show w.heap.size ≤ w.heap.size + 1; omega) _).drew
      case measure => simp [intOf]; omega
    · obtain rfl : n = 48 := by omega
      have hfin : Row wr (w.heap.size + 1) 75 (sch first 48) := by rw [fl_full _ _ hsl] at hrow; exact hrow
      have HBL := Lib.hid hbl
      have HSL := Lib.hid hsl
      clear hrow hbl hsl
      go_wp2_with (first | (refine load_R rfl 75 (.tmp 2) rfl (w.heap.size + 1) rfl 75 (sch first 48) _ _ _ hfin Tryd.underlying75 sz64 HSL.out ?_) | (refine store_S rfl 75 (.tmp 2) (.tmp 50) rfl (w.heap.size + 1) (sch first 48) rfl rfl 75 _ hfin sz64 HSL.out ?_))
      exact bodyPost_ret (res_R rfl _ _ _ _ _ _ _ _ rfl hfin Tryd.underlying75 sz64 HSL.out) rfl ⟨rfl, HBL.out⟩
end Go.Proofs.YtllkkafajchioaaDoor
