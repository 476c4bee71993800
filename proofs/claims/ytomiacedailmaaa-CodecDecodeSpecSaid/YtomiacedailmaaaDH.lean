/- Codec: the reference's reader: a byte. -/
import Derived.Test.YtomiacedailmaaaDF
import Derived.BigQuiet
namespace Go.Proofs.Ytomiacedailmaaa
open Go.RowKit

/-- the reference's reader at block rb: it reads L, r remains, and whether it has failed -/
def RdrQ (w : World) (rb B : Nat) (L r : List UInt8) (bad : Bool) : Prop :=
  ∃ A cap a, w.heap[rb]? = some (.cells #[.slice A L.length cap, .int .i64 ((a : Nat) : Int), .bool bad] 59 (0, 0)) ∧ Byt w (· < B) L A cap ∧ L.drop a = r ∧ a ≤ L.length
theorem RdrQ.lt {w : World} {rb B : Nat} {L r : List UInt8} {bad : Bool} (h : RdrQ w rb B L r bad) : rb < w.heap.size := by
  obtain ⟨_, _, _, h, _⟩ := h
  exact lt_of_block h

set_option maxRecDepth 100000 in
set_option maxHeartbeats 1600000 in
theorem next_ok (rb B : Nat) (L r : List UInt8) (c : UInt8) (bad : Bool) (w : World) (hr : RdrQ w rb B L (c :: r) bad) (hB : B ≤ rb) :
    Calls Try.prog 52 #[.pointer (some ⟨rb, 0, none⟩)] w fun e w' => e = .returned (.int .u8 c.toNat) ∧ RdrQ w' rb B L r bad ∧ w.grownBy w' (some rb) := by
  obtain ⟨A, cap, a, hh, hb, hd, ha⟩ := hr
  have hal : a < L.length := by
    have := congrArg List.length hd
    rw [List.length_drop, List.length_cons] at this
    omega
  have hca : L[a] = c := by
    have := congrArg (·[0]?) hd
    simpa [List.getElem?_drop, hal] using this
  have hdr : L.drop (a + 1) = r := by
    rw [← List.drop_drop, hd]
    rfl
  have hm1 := hb.1
  have hm2 := hb.2.1
  unfold maxLen at hm2
  obtain ⟨b, o, rfl, hS, hc⟩ := hb.at_ hal
  have c0 := cell_of_row _ _ 0 _ _ _ hh
  have c1 := cell_of_row _ _ 1 _ _ _ hh
  have c2 := cell_of_row _ _ 2 _ _ _ hh
  have f1 := cells_frozen hh 1
  have hbr : b ≠ rb := by omega
  have hset : ∀ n, ((w.drewN n).setCell ⟨rb, 1, none⟩ (.int .i64 ((a : Int) + 1))).heap[rb]? = some (.cells #[.slice (some ⟨b, o, none⟩) L.length cap, .int .i64 ((a : Int) + 1), .bool bad] 59 (0, 0)) := fun n => blk_set (w := w.drewN n) hh 1 _
  have k0 : ∀ n, ((w.drewN n).setCell ⟨rb, 1, none⟩ (.int .i64 ((a : Int) + 1))).cell? ⟨rb, 0, none⟩ = some (.slice (some ⟨b, o, none⟩) L.length cap) := fun n => cell_of_row _ _ 0 _ _ _ (hset n)
  have k1 : ∀ n, ((w.drewN n).setCell ⟨rb, 1, none⟩ (.int .i64 ((a : Int) + 1))).cell? ⟨rb, 1, none⟩ = some (.int .i64 ((a : Int) + 1)) := fun n => cell_of_row _ _ 1 _ _ _ (hset n)
  have kb : ∀ n, ((w.drewN n).setCell ⟨rb, 1, none⟩ (.int .i64 ((a : Int) + 1))).cell? ⟨b, o + a, none⟩ = some (.int .u8 (c.toNat : Int)) := fun n => by
    rw [← hca]
    exact (World.cell?_of_block (Below.heap_setCell _ _ _ _ hbr)).trans hc
  have hwr : IntKind.i64.wrap ((a : Int) + 1 - 1) = a := by rw [show (a : Int) + 1 - 1 = a from by omega]; exact IntWalk.i64_in _ (by omega)
  have hwr2 : IntKind.i64.wrap (a : Int) = a := IntWalk.i64_in _ (by omega)
  have HP : Hid (∀ n m, RdrQ (((w.drewN n).setCell ⟨rb, 1, none⟩ (.int .i64 ((a : Int) + 1))).drewN m) rb B L r bad ∧ w.grownBy (((w.drewN n).setCell ⟨rb, 1, none⟩ (.int .i64 ((a : Int) + 1))).drewN m) (some rb)) := fun n m =>
    ⟨⟨_, cap, a + 1, hset n, hb.keep fun i hi => ⟨hi, Below.heap_setCell _ _ _ _ (by show i ≠ rb; omega)⟩, hdr, by omega⟩,
      ⟨rfl, rfl, rfl, by show w.heap.size ≤ ((w.drewN n).setCell _ _).heap.size; simp [World.setCell], fun k _ hne => Below.heap_setCell _ _ _ _ (by intro e; exact hne (by rw [e]))⟩⟩
  clear hh hb hd hdr hset
  go_enter Try.func52, Try.ntmps52
  go_wp2_with fail
  go_quiet (fail)
  go_wp2_with fail
  go_quiet (fail)
  go_wp2
  go_ret
  exact ⟨rfl, HP.out _ _⟩

set_option maxRecDepth 100000 in
set_option maxHeartbeats 1600000 in
theorem next_end (rb B : Nat) (L : List UInt8) (bad : Bool) (w : World) (hr : RdrQ w rb B L [] bad) (hB : B ≤ rb) :
    Calls Try.prog 52 #[.pointer (some ⟨rb, 0, none⟩)] w fun e w' => e = .returned (.int .u8 0) ∧ RdrQ w' rb B L [] true ∧ w.grownBy w' (some rb) := by
  obtain ⟨A, cap, a, hh, hb, hd, ha⟩ := hr
  have hal : a = L.length := by
    have := congrArg List.length hd
    rw [List.length_drop, List.length_nil] at this
    omega
  subst hal
  have hm1 := hb.1
  have hm2 := hb.2.1
  unfold maxLen at hm2
  have c0 := cell_of_row _ _ 0 _ _ _ hh
  have c1 := cell_of_row _ _ 1 _ _ _ hh
  have c2 := cell_of_row _ _ 2 _ _ _ hh
  have f2 := cells_frozen hh 2
  have HP : Hid (∀ n, RdrQ ((w.drewN n).setCell ⟨rb, 2, none⟩ (.bool true)) rb B L [] true ∧ w.grownBy ((w.drewN n).setCell ⟨rb, 2, none⟩ (.bool true)) (some rb)) := fun n =>
    ⟨⟨_, cap, L.length, blk_set (w := w.drewN n) hh 2 _, hb.keep fun i hi => ⟨hi, Below.heap_setCell _ _ _ _ (by show i ≠ rb; omega)⟩, hd, Nat.le_refl _⟩,
      ⟨rfl, rfl, rfl, by show w.heap.size ≤ ((w.drewN n).setCell _ _).heap.size; simp [World.setCell], fun k _ hne => Below.heap_setCell _ _ _ _ (by intro e; exact hne (by rw [e]))⟩⟩
  clear hh hb hd
  go_enter Try.func52, Try.ntmps52
  go_wp2_with fail
  go_quiet (fail)
  go_wp2_with fail
  go_ret
  exact ⟨rfl, HP.out _⟩
end Go.Proofs.Ytomiacedailmaaa
