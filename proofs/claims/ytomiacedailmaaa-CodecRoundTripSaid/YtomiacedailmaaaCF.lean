/- Codec: equality. -/
import Derived.Test.YtomiacedailmaaaCE
namespace Go.Proofs.Ytomiacedailmaaa
open Go.RowKit

def F.same : F → F → Bool
  | .nil, .nil => true
  | .cons k n s l r, .cons k' n' s' l' r' => decide (k = k') && decide (n = n') && decide (s = s') && l.same l' && r.same r'
  | _, _ => false
theorem F.same_iff (f : F) : ∀ g : F, f.same g = true ↔ f = g := by
  induction f with
  | nil => intro g; cases g <;> simp [F.same]
  | cons k n s l r ihl ihr =>
    intro g
    cases g with
    | nil => simp [F.same]
    | cons k' n' s' l' r' => simp [F.same, ihl, ihr, and_assoc]
def V.same (u v : V) : Bool := decide (u.k = v.k) && decide (u.n = v.n) && decide (u.s = v.s) && u.l.same v.l
theorem V.same_iff (u v : V) : u.same v = true ↔ u = v := by
  cases u; cases v
  simp [V.same, F.same_iff, and_assoc]
theorem F.toList_inj {f g : F} (h : f.toList = g.toList) : f = g := by
  rw [← F.ofList_toList f, h, F.ofList_toList]

set_option maxHeartbeats 400000 in
theorem few_all (v : V) (B : Nat) (A : Option Addr) (cap : Nat) (w : World) (hv : RdV w (· < B) v A cap) (hB : B ≤ w.heap.size) :
    Calls Try.prog 25 #[v.val A cap, .int .i64 20] w fun e w' => e = .returned (.bool (decide (cnt 21 v ≤ 200))) ∧ Below w.heap.size w w' := by
  have hb0 : Below w.heap.size w (w.alloc (.cells #[.int .i64 v.k, .int .i64 v.n, .string v.s, .slice A v.l.len cap] 24)) := (Below.refl _ _).alloc (Nat.le_refl _) _
  have C := Lib.hid (count_all 21 v B A cap (w.alloc (.cells #[.int .i64 v.k, .int .i64 v.n, .string v.s, .slice A v.l.len cap] 24)) 20 (hv.below (hb0.mono hB)) (by simp; omega) (by omega) rfl)
  generalize cnt 21 v = c at C ⊢
  go_enter Try.func25, Try.ntmps25
  go_wp2_with fail
  refine C.out.mono ?_
  rintro e w' ⟨rfl, hb, hc⟩
  have hb1 : Below w.heap.size w w' := hb0.trans (hb.mono (by simp))
  clear hb0 hb C
  go_wp2
  go_ret
  exact ⟨ret_bool (by rw [Bool.eq_iff_iff]; simp; omega), hb1⟩

def allFew (l : List V) : Bool := l.all fun v => decide (cnt 21 v ≤ 200)

set_option maxRecDepth 100000 in
set_option maxHeartbeats 400000 in
theorem lfew_all (f : F) (B : Nat) (A : Option Addr) (cap : Nat) (w : World) (hv : Sl w (· < B) f A cap) (hB : B ≤ w.heap.size) :
    Calls Try.prog 11 #[.slice A f.len cap] w fun e w' => e = .returned (.bool (allFew f.toList)) ∧ Below w.heap.size w w' := by
  have hm := hv.2.1
  have hm2 := hv.1
  unfold maxLen at hm
  go_enter Try.func11, Try.ntmps11
  go_wp2_with fail
  go_loopw [7] (fun i wr => ∃ k : Nat, k ≤ f.len ∧ i = .int .i64 k ∧ Below w.heap.size w wr ∧ allFew (f.toList.take k) = true) (fun i _ => f.len - (intOf i).toNat)
  case atStart => exact ⟨0, Nat.zero_le _, rfl, Below.refl _ _, rfl⟩
  case round =>
    obtain ⟨k, hk, rfl, hb, hall⟩ := hrel
    have HA := Lib.hid hall
    clear hall
    by_cases hlt : k < f.len
    · have hlr : Sl wr (· < B) f A cap := hv.below (hb.mono hB)
      obtain ⟨b, o, u, A', cap', rfl, hS, hu, hrd, h0, h1, h2, h3⟩ := hlr.at_ hlt
      have HU := Lib.hid hu
      clear hu
      have hb2 := below_alloc hb (Nat.le_refl _) (.cells #[.int .i64 u.k, .int .i64 u.n, .string u.s, .slice A' u.l.len cap'] 24)
      have C := Lib.hid (few_all u B A' cap' (wr.alloc (.cells #[.int .i64 u.k, .int .i64 u.n, .string u.s, .slice A' u.l.len cap'] 24))
        (hrd.keep fun i hi => ⟨hi, Below.heap_alloc _ _ _ (by have := hb.size; omega)⟩) (by have := hb.size; simp; omega))
      go_wp2_with fail
      refine C.out.mono ?_
      rintro e w' ⟨rfl, hb3⟩
      have hb4 : Below w.heap.size w w' := hb2.trans (hb3.mono hb2.size)
      clear hb hb2 hb3
      by_cases hc : cnt 21 u ≤ 200
      · have HC := Lib.hid hc
        have hc' : decide (cnt 21 u ≤ 200) = true := by simpa using hc
        go_wp2
        go_roundw
        case rel =>
          refine ⟨k + 1, by omega, by go_num, hb4, ?_⟩
          rw [take_at HU.out, allFew, List.all_append]
          have := HA.out
          rw [allFew] at this
          rw [this]
          simpa using HC.out
        case measure => simp [intOf]; omega
      · have HC := Lib.hid hc
        have hc' : decide (cnt 21 u ≤ 200) = false := by simpa using hc
        go_wp2
        go_ret
        refine ⟨ret_bool ?_, hb4⟩
        symm
        rw [allFew, List.all_eq_false]
        exact ⟨u, List.mem_of_getElem? HU.out, by simpa using HC.out⟩
    · obtain rfl : k = f.len := by omega
      go_wp2
      go_ret
      refine ⟨ret_bool ?_, hb⟩
      have := HA.out
      rwa [List.take_of_length_le (by rw [F.len_toList]; exact Nat.le_refl _), eq_comm] at this

set_option maxRecDepth 100000 in
set_option maxHeartbeats 400000 in
theorem equalFunc_any (B : Nat) (f g : F) (A A2 : Option Addr) (cap cap2 : Nat) (w : World) (hB : B ≤ w.heap.size) (hf : Sl w (· < B) f A cap) (hg : Sl w (· < B) g A2 cap2)
    (ih : ∀ v ∈ f.toList, ∀ u A cap A2 cap2 w', RdV w' (· < B) v A cap → RdV w' (· < B) u A2 cap2 → B ≤ w'.heap.size →
      Calls Try.prog 21 #[v.val A cap, u.val A2 cap2] w' fun e w'' => e = .returned (.bool (v.same u)) ∧ Below w'.heap.size w' w'') :
    Calls Try.prog 40 #[.slice A f.len cap, .slice A2 g.len cap2, .func (.func 21) #[] #[]] w fun e w' => e = .returned (.bool (f.same g)) ∧ Below w.heap.size w w' := by
  have hm := hf.2.1
  have hm2 := hf.1
  unfold maxLen at hm
  have IH := Lib.hid ih
  clear ih
  by_cases hlen : f.len = g.len
  · rw [hlen]
    have HLEN := Lib.hid hlen
    rw [hlen] at hm2
    clear hlen
    go_enter Try.func40, Try.ntmps40
    go_wp2_with fail
    go_loopw [17] (fun i wr => ∃ k : Nat, k ≤ g.len ∧ i = .int .i64 k ∧ Below w.heap.size w wr ∧ f.toList.take k = g.toList.take k) (fun i _ => g.len - (intOf i).toNat)
    case atStart => exact ⟨0, Nat.zero_le _, rfl, Below.refl _ _, rfl⟩
    case round =>
      obtain ⟨k, hk, rfl, hb, htk⟩ := hrel
      have HT := Lib.hid htk
      clear htk
      by_cases hlt : k < g.len
      · have hlr : Sl wr (· < B) f A cap := hf.below (hb.mono hB)
        have hlr2 : Sl wr (· < B) g A2 cap2 := hg.below (hb.mono hB)
        obtain ⟨b, o, u, A', cap', rfl, hS, hu, hrd, h0, h1, h2, h3⟩ := hlr.at_ (i := k) (by rw [HLEN.out]; exact hlt)
        obtain ⟨b2, o2, u2, A3, cap3, rfl, hS2, hu2, hrd2, h02, h12, h22, h32⟩ := hlr2.at_ hlt
        have HU := Lib.hid hu
        have HU2 := Lib.hid hu2
        clear hu hu2
        have hws := hb.size
        have x0 : (wr.alloc (.cells #[.int .i64 u.k, .int .i64 u.n, .string u.s, .slice A' u.l.len cap'] 24)).cell? ⟨b2, o2 + k * 4, none⟩ = some (.int .i64 u2.k) := by rw [World.cell?_alloc_past _ _ _ (by show b2 < _; omega)]; exact h02
        have x1 : (wr.alloc (.cells #[.int .i64 u.k, .int .i64 u.n, .string u.s, .slice A' u.l.len cap'] 24)).cell? ⟨b2, o2 + k * 4 + 1, none⟩ = some (.int .i64 u2.n) := by rw [World.cell?_alloc_past _ _ _ (by show b2 < _; omega)]; exact h12
        have x2 : (wr.alloc (.cells #[.int .i64 u.k, .int .i64 u.n, .string u.s, .slice A' u.l.len cap'] 24)).cell? ⟨b2, o2 + k * 4 + 2, none⟩ = some (.string u2.s) := by rw [World.cell?_alloc_past _ _ _ (by show b2 < _; omega)]; exact h22
        have x3 : (wr.alloc (.cells #[.int .i64 u.k, .int .i64 u.n, .string u.s, .slice A' u.l.len cap'] 24)).cell? ⟨b2, o2 + k * 4 + 3, none⟩ = some (.slice A3 u2.l.len cap3) := by rw [World.cell?_alloc_past _ _ _ (by show b2 < _; omega)]; exact h32
        have hb2 := below_alloc (below_alloc hb (Nat.le_refl _) (.cells #[.int .i64 u.k, .int .i64 u.n, .string u.s, .slice A' u.l.len cap'] 24)) (Nat.le_refl _) (.cells #[.int .i64 u2.k, .int .i64 u2.n, .string u2.s, .slice A3 u2.l.len cap3] 24)
        have hkeep : ∀ i, i < B → ((wr.alloc (.cells #[.int .i64 u.k, .int .i64 u.n, .string u.s, .slice A' u.l.len cap'] 24)).alloc (.cells #[.int .i64 u2.k, .int .i64 u2.n, .string u2.s, .slice A3 u2.l.len cap3] 24)).heap[i]? = wr.heap[i]? := fun i hi => by
          rw [Below.heap_alloc _ _ _ (by simp; omega), Below.heap_alloc _ _ _ (by omega)]
        have C := Lib.hid (IH.out u (List.mem_of_getElem? HU.out) u2 A' cap' A3 cap3 _ (hrd.keep fun i hi => ⟨hi, hkeep i hi⟩) (hrd2.keep fun i hi => ⟨hi, hkeep i hi⟩) (by simp; omega))
        clear hkeep
        go_wp2_with fail
        refine C.out.mono ?_
        rintro e w' ⟨rfl, hb3⟩
        have hb4 : Below w.heap.size w w' := hb2.trans (hb3.mono hb2.size)
        clear hb hb2 hb3
        by_cases hs : u.same u2 = true
        · have HS := Lib.hid hs
          go_wp2
          go_roundw
          case rel =>
            refine ⟨k + 1, by omega, by go_num, hb4, ?_⟩
            rw [take_at HU.out, take_at HU2.out, HT.out, (V.same_iff _ _).1 HS.out]
          case measure => simp [intOf]; omega
        · have hs' : u.same u2 = false := by simpa using hs
          have HS := Lib.hid hs
          clear hs
          go_wp2
          go_ret
          refine ⟨ret_bool ?_, hb4⟩
          symm
          rw [Bool.eq_false_iff]
          intro h
          have e := (F.same_iff _ _).1 h
          subst e
          have := HU.out
          rw [HU2.out] at this
          injection this with this
          exact HS.out ((V.same_iff _ _).2 this.symm)
      · obtain rfl : k = g.len := by omega
        go_wp2
        go_ret
        refine ⟨ret_bool ?_, hb⟩
        symm
        rw [F.same_iff]
        have := HT.out
        rw [List.take_of_length_le (by rw [F.len_toList, HLEN.out]; exact Nat.le_refl _), List.take_of_length_le (by rw [F.len_toList]; exact Nat.le_refl _)] at this
        exact F.toList_inj this
  · have hne : ((f.len : Int) == (g.len : Int)) = false := by rw [ibeq]; simpa using hlen
    have HLEN := Lib.hid hlen
    clear hlen
    go_enter Try.func40, Try.ntmps40
    go_wp2_with fail
    go_ret
    refine ⟨ret_bool ?_, Below.refl _ _⟩
    symm
    rw [Bool.eq_false_iff]
    intro h
    exact HLEN.out (by rw [(F.same_iff _ _).1 h])
end Go.Proofs.Ytomiacedailmaaa
