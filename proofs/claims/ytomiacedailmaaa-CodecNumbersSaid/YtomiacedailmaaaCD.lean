/- Codec: what reads values: depth. -/
import Derived.Test.YtomiacedailmaaaCC
namespace Go.Proofs.Ytomiacedailmaaa
open Go.RowKit

def d1 (k : Int) (d : Nat) : Nat := if k = 3 then d + 1 else 0
def F.depth : F → Nat
  | .nil => 0
  | .cons k _ _ l r => max (d1 k l.depth) r.depth
def V.depth (v : V) : Nat := d1 v.k v.l.depth
def dmax : List V → Nat
  | [] => 0
  | v :: r => max v.depth (dmax r)
theorem F.depth_eq (f : F) : f.depth = dmax f.toList := by
  induction f with
  | nil => rfl
  | cons k n s l r _ ih => simp [F.depth, F.toList, dmax, V.depth, ih]
theorem dmax_snoc (l : List V) (v : V) : dmax (l ++ [v]) = max (dmax l) v.depth := by
  induction l with
  | nil => simp [dmax]
  | cons u r ih => simp [dmax, ih, Nat.max_assoc]
theorem dmax_mem {l : List V} {v : V} (h : v ∈ l) : v.depth ≤ dmax l := by
  induction l with
  | nil => cases h
  | cons u r ih =>
    simp only [dmax]
    rcases List.mem_cons.1 h with rfl | h
    · omega
    · have := ih h; omega
theorem take_at {α : Type} {l : List α} {k : Nat} {v : α} (h : l[k]? = some v) : l.take (k + 1) = l.take k ++ [v] := by
  rw [List.take_add_one, h]; rfl
theorem dmax_take (l : List V) (k : Nat) : dmax (l.take k) ≤ dmax l := by
  induction l generalizing k with
  | nil => simp [dmax]
  | cons u r ih =>
    cases k with
    | zero => simp [dmax]
    | succ k => simp only [List.take_succ_cons, dmax]; have := ih k; omega

/-- the world after blocks of its own -/
theorem below_alloc {B : Nat} {w w' : World} (h : Below B w w') (hB : B ≤ w.heap.size) (o : Obj) : Below B w (w'.alloc o) := h.alloc (Nat.le_trans hB h.size) o

set_option maxHeartbeats 400000 in
theorem depth_all (v : V) : ∀ (B : Nat) (A : Option Addr) (cap : Nat) (w : World), RdV w (· < B) v A cap → B ≤ w.heap.size → v.depth ≤ 4611686018427387904 →
    Calls Try.prog 33 #[v.val A cap] w fun e w' => e = .returned (.int .i64 v.depth) ∧ Below w.heap.size w w' := by
  refine V.ind (P := fun v => ∀ (B : Nat) (A : Option Addr) (cap : Nat) (w : World), RdV w (· < B) v A cap → B ≤ w.heap.size → v.depth ≤ 4611686018427387904 →
    Calls Try.prog 33 #[v.val A cap] w fun e w' => e = .returned (.int .i64 v.depth) ∧ Below w.heap.size w w') (fun v ih => ?_) v
  intro B A cap w hv hB hd
  have hm := hv.2.2.1
  have hm2 := hv.2.1
  unfold maxLen at hm
  have hb0 : ∀ c : Array Value, Below w.heap.size w (w.alloc (.cells c 24)) := fun c => (Below.refl _ _).alloc (Nat.le_refl _) _
  have IH := Lib.hid ih
  clear ih
  by_cases h3 : v.k = 3
  · have hdd : v.depth = dmax v.l.toList + 1 := by simp [V.depth, d1, h3, F.depth_eq]
    have HD := Lib.hid hdd
    have hdm : dmax v.l.toList + 1 ≤ 4611686018427387904 := by omega
    clear hdd hd
    go_enter Try.func33, Try.ntmps33
    go_wp2_with fail
    go_loopw [3, 12] (fun g i wr => ∃ k : Nat, k ≤ v.l.len ∧ i = .int .i64 k ∧ Below w.heap.size w wr ∧ g = .int .i64 (dmax (v.l.toList.take k))) (fun _ i _ => v.l.len - (intOf i).toNat)
    case atStart => exact ⟨0, Nat.zero_le _, rfl, hb0 _, rfl⟩
    case round =>
      obtain ⟨k, hk, rfl, hb, rfl⟩ := hrel
      have hle := dmax_take v.l.toList k
      by_cases hlt : k < v.l.len
      · have hlr : Sl wr (· < B) v.l A cap := hv.2.below (hb.mono hB)
        obtain ⟨b, o, u, A', cap', rfl, hS, hu, hrd, h0, h1, h2, h3'⟩ := hlr.at_ hlt
        have hum := dmax_mem (List.mem_of_getElem? hu)
        have HU := Lib.hid hu
        clear hu
        have hb2 := below_alloc hb (Nat.le_refl _) (.cells #[.int .i64 u.k, .int .i64 u.n, .string u.s, .slice A' u.l.len cap'] 24)
        have C := Lib.hid (IH.out u (List.mem_of_getElem? HU.out) B A' cap' (wr.alloc (.cells #[.int .i64 u.k, .int .i64 u.n, .string u.s, .slice A' u.l.len cap'] 24))
          (hrd.keep fun i hi => ⟨hi, Below.heap_alloc _ _ _ (by have := hb.size; omega)⟩) (by have := hb.size; simp; omega) (by omega))
        go_wp2_with fail
        refine C.out.mono ?_
        rintro e w' ⟨rfl, hb3⟩
        have hb4 : Below w.heap.size w w' := hb2.trans (hb3.mono hb2.size)
        clear hb hb2 hb3
        go_wp2
        all_goals
          go_roundw
          case rel =>
            refine ⟨k + 1, by omega, by go_num, hb4, ?_⟩
            rw [take_at HU.out, dmax_snoc]
            congr 1
            split <;> omega
          case measure => simp [intOf]; omega
      · obtain rfl : k = v.l.len := by omega
        go_wp2
        go_ret
        refine ⟨ret_int ?_, hb⟩
        rw [HD.out, List.take_of_length_le (by rw [F.len_toList]; exact Nat.le_refl _)]
        omega
  · go_enter Try.func33, Try.ntmps33
    go_wp2_with fail
    go_ret
    exact ⟨ret_int (by simp [V.depth, d1, h3]), hb0 _⟩

theorem box_kept {w wr : World} {c : Array Value} {t : TypeId} (hb : Below (w.heap.size + 1) (w.alloc (.cells c t)) wr) (i : Nat) : wr.cell? ⟨w.heap.size, i, none⟩ = c[i]? := by
  rw [hb.cell (p := ⟨w.heap.size, i, none⟩) (by simp), World.cell?_alloc_at _ _ _ _ rfl]
theorem below_box {w wr : World} {o : Obj} (hb : Below (w.heap.size + 1) (w.alloc o) wr) : Below w.heap.size w wr :=
  ((Below.refl _ _).alloc (Nat.le_refl _) o).trans (hb.mono (by omega))

set_option maxHeartbeats 400000 in
theorem rdepth_all (v : V) : ∀ (B : Nat) (A : Option Addr) (cap : Nat) (w : World), RdV w (· < B) v A cap → B ≤ w.heap.size → v.depth ≤ 4611686018427387904 →
    Calls Try.prog 35 #[v.val A cap] w fun e w' => e = .returned (.int .i64 v.depth) ∧ Below w.heap.size w w' := by
  refine V.ind (P := fun v => ∀ (B : Nat) (A : Option Addr) (cap : Nat) (w : World), RdV w (· < B) v A cap → B ≤ w.heap.size → v.depth ≤ 4611686018427387904 →
    Calls Try.prog 35 #[v.val A cap] w fun e w' => e = .returned (.int .i64 v.depth) ∧ Below w.heap.size w w') (fun v ih => ?_) v
  intro B A cap w hv hB hd
  have hm := hv.2.2.1
  have hm2 := hv.2.1
  unfold maxLen at hm
  have hb0 : ∀ c : Array Value, Below w.heap.size w (w.alloc (.cells c 24)) := fun c => (Below.refl _ _).alloc (Nat.le_refl _) _
  have IH := Lib.hid ih
  clear ih
  by_cases h3 : v.k = 3
  · have hdd : v.depth = dmax v.l.toList + 1 := by simp [V.depth, d1, h3, F.depth_eq]
    have HD := Lib.hid hdd
    have hdm : dmax v.l.toList + 1 ≤ 4611686018427387904 := by omega
    clear hdd hd
    go_enter Try.func35, Try.ntmps35
    go_wp2_with fail
    go_loopw [3, 4] (fun g i wr => ∃ k : Nat, k ≤ v.l.len ∧ i = .int .i64 k ∧ Below (w.heap.size + 1) (w.alloc (.cells #[.int .i64 3, .int .i64 v.n, .string v.s, .slice A v.l.len cap] 24)) wr ∧ g = .int .i64 (dmax (v.l.toList.take k))) (fun _ i _ => v.l.len - (intOf i).toNat)
    case atStart => exact ⟨0, Nat.zero_le _, rfl, Below.refl _ _, rfl⟩
    case round =>
      obtain ⟨k, hk, rfl, hb, rfl⟩ := hrel
      have hle := dmax_take v.l.toList k
      have hb1 := below_box hb
      have hbox : wr.cell? ⟨w.heap.size, 3, none⟩ = some (.slice A v.l.len cap) := box_kept hb 3
      by_cases hlt : k < v.l.len
      · have hlr : Sl wr (· < B) v.l A cap := hv.2.below (hb1.mono hB)
        obtain ⟨b, o, u, A', cap', rfl, hS, hu, hrd, h0, h1, h2, h3'⟩ := hlr.at_ hlt
        have hum := dmax_mem (List.mem_of_getElem? hu)
        have HU := Lib.hid hu
        clear hu
        have C := Lib.hid (IH.out u (List.mem_of_getElem? HU.out) B A' cap' wr hrd (Nat.le_trans hB hb1.size) (by omega))
        go_wp2_with fail
        refine C.out.mono ?_
        rintro e w' ⟨rfl, hb3⟩
        have hb4 := hb.trans (hb3.mono (by have := hb.size; simpa using this))
        clear hb hb1 hb3
        go_wp2
        all_goals
          go_roundw
          case rel =>
            refine ⟨k + 1, by omega, by go_num, hb4, ?_⟩
            rw [take_at HU.out, dmax_snoc]
            congr 1
            split <;> omega
          case measure => simp [intOf]; omega
      · obtain rfl : k = v.l.len := by omega
        go_wp2
        go_ret
        refine ⟨ret_int ?_, hb1⟩
        rw [HD.out, List.take_of_length_le (by rw [F.len_toList]; exact Nat.le_refl _)]
        omega
  · go_enter Try.func35, Try.ntmps35
    go_wp2_with fail
    go_ret
    exact ⟨ret_int (by simp [V.depth, d1, h3]), hb0 _⟩

set_option maxHeartbeats 400000 in
theorem formed_all (v : V) : ∀ (B : Nat) (A : Option Addr) (cap : Nat) (w : World), RdV w (· < B) v A cap → B ≤ w.heap.size →
    Calls Try.prog 34 #[v.val A cap] w fun e w' => e = .returned (.bool v.wf) ∧ Below w.heap.size w w' := by
  refine V.ind (P := fun v => ∀ (B : Nat) (A : Option Addr) (cap : Nat) (w : World), RdV w (· < B) v A cap → B ≤ w.heap.size →
    Calls Try.prog 34 #[v.val A cap] w fun e w' => e = .returned (.bool v.wf) ∧ Below w.heap.size w w') (fun v ih => ?_) v
  intro B A cap w hv hB
  have hm := hv.2.2.1
  have hm2 := hv.2.1
  unfold maxLen at hm
  have hb0 : ∀ c : Array Value, Below w.heap.size w (w.alloc (.cells c 24)) := fun c => (Below.refl _ _).alloc (Nat.le_refl _) _
  have IH := Lib.hid ih
  clear ih
  by_cases h3 : v.k = 3
  · go_enter Try.func34, Try.ntmps34
    go_wp2_with fail
    go_loopw [3] (fun i wr => ∃ k : Nat, k ≤ v.l.len ∧ i = .int .i64 k ∧ Below (w.heap.size + 1) (w.alloc (.cells #[.int .i64 3, .int .i64 v.n, .string v.s, .slice A v.l.len cap] 24)) wr ∧ (v.l.toList.take k).all V.wf = true) (fun i _ => v.l.len - (intOf i).toNat)
    case atStart => exact ⟨0, Nat.zero_le _, rfl, Below.refl _ _, rfl⟩
    case round =>
      obtain ⟨k, hk, rfl, hb, hall⟩ := hrel
      have HA := Lib.hid hall
      clear hall
      have hb1 := below_box hb
      have hbox : wr.cell? ⟨w.heap.size, 3, none⟩ = some (.slice A v.l.len cap) := box_kept hb 3
      have hbox1 : wr.cell? ⟨w.heap.size, 1, none⟩ = some (.int .i64 v.n) := box_kept hb 1
      have hbox2 : wr.cell? ⟨w.heap.size, 2, none⟩ = some (.string v.s) := box_kept hb 2
      by_cases hlt : k < v.l.len
      · have hlr : Sl wr (· < B) v.l A cap := hv.2.below (hb1.mono hB)
        obtain ⟨b, o, u, A', cap', rfl, hS, hu, hrd, h0, h1, h2, h3'⟩ := hlr.at_ hlt
        have HU := Lib.hid hu
        clear hu
        have C := Lib.hid (IH.out u (List.mem_of_getElem? HU.out) B A' cap' wr hrd (Nat.le_trans hB hb1.size))
        clear hbox1 hbox2
        go_wp2_with fail
        refine C.out.mono ?_
        rintro e w' ⟨rfl, hb3⟩
        have hb4 := hb.trans (hb3.mono (by have := hb.size; simpa using this))
        clear hb hb1 hb3
        by_cases hw : u.wf = true
        · have HW := Lib.hid hw
          go_wp2
          go_roundw
          case rel =>
            refine ⟨k + 1, by omega, by go_num, hb4, ?_⟩
            rw [take_at HU.out, List.all_append, HA.out]
            simp [HW.out]
          case measure => simp [intOf]; omega
        · have hw' : u.wf = false := by simpa using hw
          have HW := Lib.hid hw'
          clear hw
          go_wp2
          go_ret
          refine ⟨ret_bool ?_, below_box hb4⟩
          have : v.l.wf = false := by
            rw [F.wf_all, List.all_eq_false]
            exact ⟨u, List.mem_of_getElem? HU.out, by rw [HW.out]; simp⟩
          simp [V.wf, wf1, h3, this]
      · obtain rfl : k = v.l.len := by omega
        have hall : v.l.wf = true := by
          have := HA.out
          rwa [List.take_of_length_le (by rw [F.len_toList]; exact Nat.le_refl _), ← F.wf_all] at this
        have HL := Lib.hid hall
        clear hall hlt
        by_cases hn : v.n = 0
        all_goals
          go_wp2
          go_ret
          refine ⟨ret_bool ?_, hb1⟩
          simp [V.wf, wf1, h3, hn, HL.out, empty]
  · by_cases h1 : v.k = 1
    · by_cases hs : v.s.toList = []
      all_goals
        go_enter Try.func34, Try.ntmps34
        go_wp2_with fail
        go_ret
        refine ⟨ret_bool ?_, hb0 _⟩
        simp [V.wf, wf1, h1, hs, empty, ibeq0]
    · by_cases h2 : v.k = 2
      · by_cases hn : v.n = 0
        all_goals
          go_enter Try.func34, Try.ntmps34
          go_wp2_with fail
          go_ret
          refine ⟨ret_bool ?_, hb0 _⟩
          simp [V.wf, wf1, h2, hn, ibeq0]
      · go_enter Try.func34, Try.ntmps34
        go_wp2_with fail
        go_ret
        refine ⟨ret_bool ?_, hb0 _⟩
        simp [V.wf, wf1, h1, h2, h3]
end Go.Proofs.Ytomiacedailmaaa
