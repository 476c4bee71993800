/- Digest: the reference's block. -/
import Derived.Test.YtllkkafajchioaaDoorHG
import Derived.Deep.RegionHeld3
namespace Go.Proofs.YtllkkafajchioaaDoor
open Go.RowKit

theorem rror7 (x : UInt32) (w : World) : Calls Tryd.prog 61 #[.int .u32 (I x), .int .i64 7] w fun e w' => e = .returned (.int .u32 (I (rr 7 x))) ∧ ∃ m, w' = w.drewN m := rror_all x 7 w (by omega) (by omega)
theorem rror18 (x : UInt32) (w : World) : Calls Tryd.prog 61 #[.int .u32 (I x), .int .i64 18] w fun e w' => e = .returned (.int .u32 (I (rr 18 x))) ∧ ∃ m, w' = w.drewN m := rror_all x 18 w (by omega) (by omega)
theorem rror17 (x : UInt32) (w : World) : Calls Tryd.prog 61 #[.int .u32 (I x), .int .i64 17] w fun e w' => e = .returned (.int .u32 (I (rr 17 x))) ∧ ∃ m, w' = w.drewN m := rror_all x 17 w (by omega) (by omega)
theorem rror19 (x : UInt32) (w : World) : Calls Tryd.prog 61 #[.int .u32 (I x), .int .i64 19] w fun e w' => e = .returned (.int .u32 (I (rr 19 x))) ∧ ∃ m, w' = w.drewN m := rror_all x 19 w (by omega) (by omega)
theorem rror6 (x : UInt32) (w : World) : Calls Tryd.prog 61 #[.int .u32 (I x), .int .i64 6] w fun e w' => e = .returned (.int .u32 (I (rr 6 x))) ∧ ∃ m, w' = w.drewN m := rror_all x 6 w (by omega) (by omega)
theorem rror11 (x : UInt32) (w : World) : Calls Tryd.prog 61 #[.int .u32 (I x), .int .i64 11] w fun e w' => e = .returned (.int .u32 (I (rr 11 x))) ∧ ∃ m, w' = w.drewN m := rror_all x 11 w (by omega) (by omega)
theorem rror25 (x : UInt32) (w : World) : Calls Tryd.prog 61 #[.int .u32 (I x), .int .i64 25] w fun e w' => e = .returned (.int .u32 (I (rr 25 x))) ∧ ∃ m, w' = w.drewN m := rror_all x 25 w (by omega) (by omega)
theorem rror2 (x : UInt32) (w : World) : Calls Tryd.prog 61 #[.int .u32 (I x), .int .i64 2] w fun e w' => e = .returned (.int .u32 (I (rr 2 x))) ∧ ∃ m, w' = w.drewN m := rror_all x 2 w (by omega) (by omega)
theorem rror13 (x : UInt32) (w : World) : Calls Tryd.prog 61 #[.int .u32 (I x), .int .i64 13] w fun e w' => e = .returned (.int .u32 (I (rr 13 x))) ∧ ∃ m, w' = w.drewN m := rror_all x 13 w (by omega) (by omega)
theorem rror22 (x : UInt32) (w : World) : Calls Tryd.prog 61 #[.int .u32 (I x), .int .i64 22] w fun e w' => e = .returned (.int .u32 (I (rr 22 x))) ∧ ∃ m, w' = w.drewN m := rror_all x 22 w (by omega) (by omega)

theorem build_R {ops : Array Oper} {rest : List Oper} {o : Oper} {a : Act} {w : World} {Q : Exit → Act → World → Prop} (hgd : o.guard = none) (t : TypeId) (parts : Array (Nat × Operand)) (ho : o.op = .build t parts)
    (l : List UInt32) (hb : Tryd.prog.built t (parts.map fun (i, x) => (i, a.eval x)).toList = some (R32 l).toArray)
    (hK : wpList Tryd.prog ops Q rest (a.put o.dst (.agg (R32 l).toArray)) w) : wpList Tryd.prog ops Q (o :: rest) a w := by
  refine wpList_build hgd t parts ho (by rw [hb]; rfl) ?_
  rw [hb]
  exact hK

set_option maxRecDepth 100000 in
set_option maxHeartbeats 1600000 in
theorem numbers_all (w : World) : Calls Tryd.prog 62 #[] w fun e w' => e = .returned (.agg (R32 Kt).toArray) ∧ Below w.heap.size w w' := by
  have hz : Row (w.alloc (.cells (R32 (fl 64 [])).toArray 75)) w.heap.size 75 (fl 64 []) := heap_alloc_new w _
  have hz2 := hz.setRow Kt
  go_enter Tryd.func62, Tryd.ntmps62
  go_wp2_with (first
    | (refine build_R rfl _ _ rfl Kt (by kernel_rfl) ?_)
    | (refine store_R rfl 75 (.tmp 0) (.tmp 1) rfl w.heap.size (fl 64 []) Kt rfl rfl 75 64 hz sz64 Kt_len rfl ?_))
  exact bodyPost_ret (res_R rfl _ _ _ _ _ _ _ _ rfl hz2 Tryd.underlying75 sz64 Kt_len) rfl ⟨rfl, below_setRow ((Below.refl _ _).alloc (Nat.le_refl _) _) (Nat.le_refl _) _⟩
end Go.Proofs.YtllkkafajchioaaDoor
