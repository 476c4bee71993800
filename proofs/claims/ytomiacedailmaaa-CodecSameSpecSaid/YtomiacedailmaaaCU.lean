/- Codec: Decode. -/
import Derived.Test.YtomiacedailmaaaCT
import Derived.Recover
import Derived.Defers
namespace Go.Proofs.Ytomiacedailmaaa
open Go.RowKit

set_option maxHeartbeats 800000 in
theorem catch_panicking (g : Nat) (c0 c1 c2 c3 e0 : Value) (u : TypeId) (pv : Value) (older : List PanicEntry) (w : World) (hb0 : w.heap[g]? = some (.cells #[c0, c1, c2, c3] 24 (0, 0))) (hb1 : w.heap[g + 1]? = some (.cells #[e0] 28 (0, 0))) :
    CallsD Try.prog 36 #[.pointer (some ⟨g, 0, none⟩), .pointer (some ⟨g + 1, 0, none⟩)] (.panicking ({ v := .iface u pv, recovered := false } :: older)) w fun e u' w' =>
      e = .returned (.tuple #[]) ∧ u' = .panicking ({ v := .iface u pv, recovered := true } :: older) ∧ w'.heap[g]? = some (.cells zero4 24 (0, 0)) ∧ w'.heap[g + 1]? = some (.cells #[.int .i64 10] 28 (0, 0)) ∧ Below g w w' := by
  have k0 : w.cell? ⟨g, 0, none⟩ = some c0 := by rw [cell_of_row _ _ _ _ _ _ hb0]; rfl
  have k1 : w.cell? ⟨g, 1, none⟩ = some c1 := by rw [cell_of_row _ _ _ _ _ _ hb0]; rfl
  have k2 : w.cell? ⟨g, 2, none⟩ = some c2 := by rw [cell_of_row _ _ _ _ _ _ hb0]; rfl
  have k3 : w.cell? ⟨g, 3, none⟩ = some c3 := by rw [cell_of_row _ _ _ _ _ _ hb0]; rfl
  have q0 := cell_of_one hb1
  have g0 := cells_frozen hb0 0
  have g1 := cells_frozen hb0 1
  have g2 := cells_frozen hb0 2
  have g3 := cells_frozen hb0 3
  have f0 := free_of_one hb1
  have HB0 := Lib.hid hb0
  have HB1 := Lib.hid hb1
  clear hb0 hb1
  refine callsD_of_wpS Try.func36 rfl fun c₀ cs hu => ?_
  apply wpS_seq
  apply wpS_region
  simp [wpOpsS, go_sem, recoverD, hu, Try.ntmps36, Exit.thenS]
  refine wpS_cond (t := true) (by simp [Act.eval, Array.replicate]) ?_
  simp only [if_true]
  refine wpS_of_wp ?_
  go_wp2
  refine ⟨rfl, _, rfl, .tuple #[], by simp [results, Try.results36], rfl, rfl, ?_, ?_, ?_⟩
  · rw [Below.heap_setCell _ _ _ _ (by show g ≠ g + 1; omega)]
    exact blk_set (blk_set (blk_set (blk_set HB0.out 0 _) 1 _) 2 _) 3 _
  · refine one_setCell (v := e0) ?_
    rw [Below.heap_setCell _ _ _ _ (by show g + 1 ≠ g; omega), Below.heap_setCell _ _ _ _ (by show g + 1 ≠ g; omega), Below.heap_setCell _ _ _ _ (by show g + 1 ≠ g; omega), Below.heap_setCell _ _ _ _ (by show g + 1 ≠ g; omega)]
    exact HB1.out
  · exact (((((Below.refl _ _).setCell (Nat.le_refl g) _).setCell (Nat.le_refl g) _).setCell (Nat.le_refl g) _).setCell (Nat.le_refl g) _).setCell (Nat.le_succ g) _

theorem catch_idle (p q : Value) (w : World) :
    CallsD Try.prog 36 #[p, q] .returning w fun e u' w' => e = .returned (.tuple #[]) ∧ u' = .returning ∧ w' = w := by
  refine callsD_of_wpS Try.func36 rfl fun c₀ cs hu => ?_
  apply wpS_seq
  apply wpS_region
  simp [wpOpsS, go_sem, recoverD, hu, Try.ntmps36, Exit.thenS]
  refine wpS_cond (t := false) (by simp [Act.eval, Array.replicate]) ?_
  simp only [Bool.false_eq_true, if_false]
  refine wpS_of_wp (wp_skip ?_)
  cases c₀
  simp_all [bodyPostS, results, Try.results36]

theorem below_grown {B rb : Nat} {w w' : World} (h : w.grownBy w' (some rb)) (hB : B ≤ rb) (hs : B ≤ w.heap.size) : Below B w w' :=
  ⟨h.os, h.tape, h.output, h.size, fun k hk => h.block k (by omega) (by intro e; injection e; omega)⟩

def decP (l : List UInt8) : Option V := match valP 16 l with | some (v, []) => some v | _ => none

def DPost (w : World) (r : Option V) (e : Ending) (w' : World) : Prop :=
  Below w.heap.size w w' ∧ match r with
  | some v => ∃ A cap, e = .returned (.tuple #[v.val A cap, .int .i64 0]) ∧ RdV w' (fun b => w.heap.size ≤ b ∧ b < w'.heap.size) v A cap
  | none => e = .returned (.tuple #[.agg zero4, .int .i64 10])

set_option maxRecDepth 100000 in
set_option maxHeartbeats 1600000 in
theorem decode_all (B : Nat) (l : List UInt8) (A : Option Addr) (cap : Nat) (w : World) (hb : Byt w (· < B) l A cap) (hB : B ≤ w.heap.size) (hl : l.length < 1099511627776) :
    Calls Try.prog 18 #[.slice A l.length cap] w (DPost w (decP l)) := by
  have hmf : ∀ (fn : Fn) (first cap : Array Value) (w : World), (Instr.makeFunc fn first cap).run Try.prog w = .ok (.func fn first cap) w := fun _ _ _ _ => rfl
  have hval : ∀ W1 : World, Rdr W1 (w.heap.size + 1 + 1) B l → Calls Try.prog 37 #[.pointer (some ⟨w.heap.size + 1 + 1, 0, none⟩), .int .i64 0] W1 (VPost (w.heap.size + 1 + 1) B W1 (valP 16 l)) :=
    fun W1 hr => value_all 16 _ B l W1 0 (Nat.le_refl _) rfl hr hl (by omega)
  have HV := Lib.hid hval
  have HBY := Lib.hid hb
  obtain ⟨R, hR⟩ : ∃ R, R = decP l := ⟨_, rfl⟩
  rw [← hR]
  have HR := Lib.hid hR
  clear hval hb hR
  obtain ⟨W1, hW1, b0, b1, b2, hz, hb⟩ : ∃ W1, W1 = ((w.alloc (.cells zero4 24)).alloc (.cells #[.int .i64 0] 28)).alloc (.cells #[.slice A l.length cap] 56) ∧
      W1.heap[w.heap.size]? = some (.cells zero4 24 (0, 0)) ∧ W1.heap[w.heap.size + 1]? = some (.cells #[.int .i64 0] 28 (0, 0)) ∧ W1.heap[w.heap.size + 1 + 1]? = some (.cells #[.slice A l.length cap] 56 (0, 0)) ∧ W1.heap.size = w.heap.size + 3 ∧ Below w.heap.size w W1 := by
    obtain ⟨W0, h0, _, _, hz, hb, x0, x1⟩ := two_boxes w zero4 #[.int .i64 0] 24 28
    refine ⟨_, rfl, ?_, ?_, ?_, by simp, ?_⟩
    · rw [← h0, Below.heap_alloc _ _ _ (by omega)]; exact x0
    · rw [← h0, Below.heap_alloc _ _ _ (by omega)]; exact x1
    · rw [← h0]
      have := heap_alloc_new W0 (.cells #[.slice A l.length cap] 56)
      rwa [hz] at this
    · rw [← h0]
      exact hb.alloc (by omega) _
  have hrd : Rdr W1 (w.heap.size + 1 + 1) B l := ⟨A, cap, b2, HBY.out.keep fun i hi => ⟨hi, hb.block i (by omega)⟩⟩
  have D := Lib.hid (HV.out W1 hrd)
  clear hrd HV
  rcases hp : valP 16 l with _ | ⟨v, l'⟩
  · have HN : Hid (R = none) := by show R = none; rw [HR.out, decP, hp]
    rw [hp] at D
    clear hp
    go_enter_defers Try.func18, Try.ntmps18
    go_wp2_with fail
    rw [← hW1]
    clear hW1
    refine D.out.mono ?_
    rintro e w2 ⟨rfl, hg⟩
    have x0 := (hg.block w.heap.size (by omega) (by intro e; injection e; omega)).trans b0
    have x1 := (hg.block (w.heap.size + 1) (by omega) (by intro e; injection e; omega)).trans b1
    refine leaves_cons (f := 36) (args := #[.pointer (some ⟨w.heap.size, 0, none⟩), .pointer (some ⟨w.heap.size + 1, 0, none⟩)]) (by simp) (by simp [go_sem]) ?_
    refine (catch_panicking w.heap.size _ _ _ _ _ _ _ [] w2 x0 x1).mono ?_
    rintro e u' w3 ⟨rfl, rfl, y0, y1, hb3⟩
    have k0 : w3.cell? ⟨w.heap.size, 0, none⟩ = some (.int .i64 0) := by rw [cell_of_row _ _ _ _ _ _ y0]; rfl
    have k1 : w3.cell? ⟨w.heap.size, 1, none⟩ = some (.int .i64 0) := by rw [cell_of_row _ _ _ _ _ _ y0]; rfl
    have k2 : w3.cell? ⟨w.heap.size, 2, none⟩ = some (.string ⟨#[]⟩) := by rw [cell_of_row _ _ _ _ _ _ y0]; rfl
    have k3 : w3.cell? ⟨w.heap.size, 3, none⟩ = some (.slice none 0 0) := by rw [cell_of_row _ _ _ _ _ _ y0]; rfl
    have q0 := cell_of_one y1
    simp [Leaves, settle, results, Try.results18, go_sem, k0, k1, k2, k3, q0]
    rw [HN.out]
    exact ⟨(hb.trans (below_grown hg (by omega) (by omega))).trans hb3, rfl⟩
  · rw [hp] at D
    by_cases hl0 : l' = []
    · have HN : Hid (R = some v) := by show R = some v; rw [HR.out, decP, hp, hl0]
      clear hp
      subst hl0
      go_enter_defers Try.func18, Try.ntmps18
      go_wp2_with fail
      rw [← hW1]
      clear hW1
      refine D.out.mono ?_
      rintro e w2 ⟨A', cap', rfl, hrv, hr2, hg⟩
      have x0 := (hg.block w.heap.size (by omega) (by intro e; injection e; omega)).trans b0
      have x1 := (hg.block (w.heap.size + 1) (by omega) (by intro e; injection e; omega)).trans b1
      obtain ⟨A2, cap2, x2, _⟩ := hr2
      have k0 : w2.cell? ⟨w.heap.size, 0, none⟩ = some (.int .i64 0) := by rw [cell_of_row _ _ _ _ _ _ x0]; rfl
      have k1 : w2.cell? ⟨w.heap.size, 1, none⟩ = some (.int .i64 0) := by rw [cell_of_row _ _ _ _ _ _ x0]; rfl
      have k2 : w2.cell? ⟨w.heap.size, 2, none⟩ = some (.string ⟨#[]⟩) := by rw [cell_of_row _ _ _ _ _ _ x0]; rfl
      have k3 : w2.cell? ⟨w.heap.size, 3, none⟩ = some (.slice none 0 0) := by rw [cell_of_row _ _ _ _ _ _ x0]; rfl
      have g0 := cells_frozen x0 0
      have g1 := cells_frozen x0 1
      have g2 := cells_frozen x0 2
      have g3 := cells_frozen x0 3
      have q0 := cell_of_one x1
      have qf := free_of_one x1
      have r0 : w2.cell? ⟨w.heap.size + 1 + 1, 0, none⟩ = some (.slice A2 0 cap2) := cell_of_one x2
      have HG := Lib.hid hg
      have HRV := Lib.hid hrv
      have HX := Lib.hid x0
      have HX1 := Lib.hid x1
      clear hg hrv x0 x1 x2
      go_wp2
      obtain ⟨W5, hW5⟩ : ∃ W5, W5 = (((((((((w2.setCell ⟨w.heap.size, 0, none⟩ (.int .i64 v.k)).setCell ⟨w.heap.size, 1, none⟩ (.int .i64 v.n)).setCell ⟨w.heap.size, 2, none⟩ (.string v.s)).setCell ⟨w.heap.size, 3, none⟩ (.slice A' v.l.len cap')).setCell ⟨w.heap.size, 0, none⟩ (.int .i64 v.k)).setCell ⟨w.heap.size, 1, none⟩ (.int .i64 v.n)).setCell ⟨w.heap.size, 2, none⟩ (.string v.s)).setCell ⟨w.heap.size, 3, none⟩ (.slice A' v.l.len cap')).setCell ⟨w.heap.size + 1, 0, none⟩ (.int .i64 0)) := ⟨_, rfl⟩
      rw [← hW5]
      have z0 : W5.heap[w.heap.size]? = some (.cells #[.int .i64 v.k, .int .i64 v.n, .string v.s, .slice A' v.l.len cap'] 24 (0, 0)) := by
        rw [hW5, Below.heap_setCell _ _ _ _ (by show w.heap.size ≠ w.heap.size + 1; omega)]
        exact blk_set (blk_set (blk_set (blk_set (blk_set (blk_set (blk_set (blk_set HX.out 0 _) 1 _) 2 _) 3 _) 0 _) 1 _) 2 _) 3 _
      have z1 : W5.heap[w.heap.size + 1]? = some (.cells #[.int .i64 0] 28 (0, 0)) := by
        rw [hW5]
        refine one_setCell (v := .int .i64 0) ?_
        have hne : ∀ i, w.heap.size + 1 ≠ (⟨w.heap.size, i, none⟩ : Addr).block := fun i => by show w.heap.size + 1 ≠ w.heap.size; omega
        rw [Below.heap_setCell _ _ _ _ (hne _), Below.heap_setCell _ _ _ _ (hne _), Below.heap_setCell _ _ _ _ (hne _), Below.heap_setCell _ _ _ _ (hne _), Below.heap_setCell _ _ _ _ (hne _), Below.heap_setCell _ _ _ _ (hne _), Below.heap_setCell _ _ _ _ (hne _), Below.heap_setCell _ _ _ _ (hne _)]
        exact HX1.out
      have z5 : W5.heap.size = w2.heap.size := by rw [hW5]; simp [World.setCell]
      have zo : ∀ i, i ≠ w.heap.size → i ≠ w.heap.size + 1 → W5.heap[i]? = w2.heap[i]? := fun i h1 h2 => by
        rw [hW5, Below.heap_setCell _ _ _ _ h2, Below.heap_setCell _ _ _ _ h1, Below.heap_setCell _ _ _ _ h1, Below.heap_setCell _ _ _ _ h1, Below.heap_setCell _ _ _ _ h1, Below.heap_setCell _ _ _ _ h1, Below.heap_setCell _ _ _ _ h1, Below.heap_setCell _ _ _ _ h1, Below.heap_setCell _ _ _ _ h1]
      have zb : Below w.heap.size w2 W5 := by
        rw [hW5]
        exact (((((((((Below.refl w.heap.size w2).setCell (p := ⟨w.heap.size, 0, none⟩) (Nat.le_refl _) _).setCell (p := ⟨w.heap.size, 1, none⟩) (Nat.le_refl _) _).setCell (p := ⟨w.heap.size, 2, none⟩) (Nat.le_refl _) _).setCell (p := ⟨w.heap.size, 3, none⟩) (Nat.le_refl _) _).setCell (p := ⟨w.heap.size, 0, none⟩) (Nat.le_refl _) _).setCell (p := ⟨w.heap.size, 1, none⟩) (Nat.le_refl _) _).setCell (p := ⟨w.heap.size, 2, none⟩) (Nat.le_refl _) _).setCell (p := ⟨w.heap.size, 3, none⟩) (Nat.le_refl _) _).setCell (p := ⟨w.heap.size + 1, 0, none⟩) (Nat.le_succ _) _
      clear hW5 k0 k1 k2 k3 q0
      refine leaves_cons (f := 36) (args := #[.pointer (some ⟨w.heap.size, 0, none⟩), .pointer (some ⟨w.heap.size + 1, 0, none⟩)]) (by simp) (by simp [go_sem]) ?_
      refine (catch_idle _ _ _).mono ?_
      rintro e u' w3 ⟨rfl, rfl, rfl⟩
      have k0 : w3.cell? ⟨w.heap.size, 0, none⟩ = some (.int .i64 v.k) := by rw [cell_of_row _ _ _ _ _ _ z0]; rfl
      have k1 : w3.cell? ⟨w.heap.size, 1, none⟩ = some (.int .i64 v.n) := by rw [cell_of_row _ _ _ _ _ _ z0]; rfl
      have k2 : w3.cell? ⟨w.heap.size, 2, none⟩ = some (.string v.s) := by rw [cell_of_row _ _ _ _ _ _ z0]; rfl
      have k3 : w3.cell? ⟨w.heap.size, 3, none⟩ = some (.slice A' v.l.len cap') := by rw [cell_of_row _ _ _ _ _ _ z0]; rfl
      have q0 := cell_of_one z1
      simp [Leaves, settle, results, Try.results18, go_sem, k0, k1, k2, k3, q0]
      rw [HN.out]
      exact ⟨(hb.trans (below_grown HG.out (by omega) (by omega))).trans zb, A', cap', rfl, HRV.out.keep fun i hi => ⟨⟨by omega, by omega⟩, zo i (by omega) (by omega)⟩⟩
    · have HN : Hid (R = none) := by
        show R = none
        rw [HR.out, decP, hp]
        cases l' with
        | nil => exact absurd rfl hl0
        | cons => rfl
      have hlp : 0 < l'.length := List.length_pos_iff.2 hl0
      clear hp hl0
      go_enter_defers Try.func18, Try.ntmps18
      go_wp2_with fail
      rw [← hW1]
      clear hW1
      refine D.out.mono ?_
      rintro e w2 ⟨A', cap', rfl, hrv, hr2, hg⟩
      have x0 := (hg.block w.heap.size (by omega) (by intro e; injection e; omega)).trans b0
      have x1 := (hg.block (w.heap.size + 1) (by omega) (by intro e; injection e; omega)).trans b1
      obtain ⟨A2, cap2, x2, _⟩ := hr2
      have k0 : w2.cell? ⟨w.heap.size, 0, none⟩ = some (.int .i64 0) := by rw [cell_of_row _ _ _ _ _ _ x0]; rfl
      have k1 : w2.cell? ⟨w.heap.size, 1, none⟩ = some (.int .i64 0) := by rw [cell_of_row _ _ _ _ _ _ x0]; rfl
      have k2 : w2.cell? ⟨w.heap.size, 2, none⟩ = some (.string ⟨#[]⟩) := by rw [cell_of_row _ _ _ _ _ _ x0]; rfl
      have k3 : w2.cell? ⟨w.heap.size, 3, none⟩ = some (.slice none 0 0) := by rw [cell_of_row _ _ _ _ _ _ x0]; rfl
      have g0 := cells_frozen x0 0
      have g1 := cells_frozen x0 1
      have g2 := cells_frozen x0 2
      have g3 := cells_frozen x0 3
      have r0 : w2.cell? ⟨w.heap.size + 1 + 1, 0, none⟩ = some (.slice A2 l'.length cap2) := cell_of_one x2
      have HG := Lib.hid hg
      have HX := Lib.hid x0
      have HX1 := Lib.hid x1
      clear hg hrv x0 x1 x2
      go_wp2_with (go_at_call 38; refine (fail_all _ _).mono ?_; rintro e w'' ⟨rfl, rfl⟩)
      refine leaves_cons (f := 36) (args := #[.pointer (some ⟨w.heap.size, 0, none⟩), .pointer (some ⟨w.heap.size + 1, 0, none⟩)]) (by simp) (by simp [go_sem]) ?_
      have hne : ∀ i, w.heap.size + 1 ≠ (⟨w.heap.size, i, none⟩ : Addr).block := fun i => by show w.heap.size + 1 ≠ w.heap.size; omega
      refine (catch_panicking w.heap.size _ _ _ _ _ _ _ [] _ (blk_set (blk_set (blk_set (blk_set HX.out 0 _) 1 _) 2 _) 3 _) (by rw [Below.heap_setCell _ _ _ _ (hne _), Below.heap_setCell _ _ _ _ (hne _), Below.heap_setCell _ _ _ _ (hne _), Below.heap_setCell _ _ _ _ (hne _)]; exact HX1.out)).mono ?_
      clear k0 k1 k2 k3
      rintro e u' w3 ⟨rfl, rfl, y0, y1, hb3⟩
      have k0 : w3.cell? ⟨w.heap.size, 0, none⟩ = some (.int .i64 0) := by rw [cell_of_row _ _ _ _ _ _ y0]; rfl
      have k1 : w3.cell? ⟨w.heap.size, 1, none⟩ = some (.int .i64 0) := by rw [cell_of_row _ _ _ _ _ _ y0]; rfl
      have k2 : w3.cell? ⟨w.heap.size, 2, none⟩ = some (.string ⟨#[]⟩) := by rw [cell_of_row _ _ _ _ _ _ y0]; rfl
      have k3 : w3.cell? ⟨w.heap.size, 3, none⟩ = some (.slice none 0 0) := by rw [cell_of_row _ _ _ _ _ _ y0]; rfl
      have q0 := cell_of_one y1
      simp [Leaves, settle, results, Try.results18, go_sem, k0, k1, k2, k3, q0]
      rw [HN.out]
      exact ⟨(((((hb.trans (below_grown HG.out (by omega) (by omega))).setCell (Nat.le_refl w.heap.size) _).setCell (Nat.le_refl w.heap.size) _).setCell (Nat.le_refl w.heap.size) _).setCell (Nat.le_refl w.heap.size) _).trans hb3, rfl⟩
end Go.Proofs.Ytomiacedailmaaa
