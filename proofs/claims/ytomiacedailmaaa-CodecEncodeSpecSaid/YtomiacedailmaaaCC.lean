/- Codec: what reads values: well-formed, depth. -/
import Derived.Test.YtomiacedailmaaaCA
import Derived.Test.YtomiacedailmaaaCB
import Derived.Lib.Hide
namespace Go.Proofs.Ytomiacedailmaaa
open Go.RowKit

def fidx (p : V → Bool) : List V → Nat → Int
  | [], _ => -1
  | v :: r, i => if p v then i else fidx p r (i + 1)

set_option maxHeartbeats 400000 in
theorem indexFunc_any (B : Nat) (f : F) (A : Option Addr) (cap : Nat) (p : V → Bool) (w : World) (hB : B ≤ w.heap.size) (hl : Sl w (· < B) f A cap)
    (hf : ∀ v ∈ f.toList, ∀ A cap w', RdV w' (· < B) v A cap → B ≤ w'.heap.size → Calls Try.prog 46 #[v.val A cap] w' fun e w'' => e = .returned (.bool (p v)) ∧ Below w'.heap.size w' w'') :
    Calls Try.prog 57 #[.slice A f.len cap, .func (.func 46) #[] #[]] w fun e w' => e = .returned (.int .i64 (fidx p f.toList 0)) ∧ Below w.heap.size w w' := by
  have HF := Lib.hid hf
  clear hf
  have hm := hl.2.1
  have hm2 := hl.1
  unfold maxLen at hm
  go_enter Try.func57, Try.ntmps57
  go_wp2_with fail
  go_loopw [8] (fun i wr => ∃ k : Nat, k ≤ f.len ∧ i = .int .i64 k ∧ Below w.heap.size w wr ∧ fidx p f.toList 0 = fidx p (f.toList.drop k) k) (fun i _ => f.len - (intOf i).toNat)
  case atStart => exact ⟨0, Nat.zero_le _, rfl, Below.refl _ _, rfl⟩
  case round =>
    obtain ⟨k, hk, rfl, hb, hx⟩ := hrel
    have HX := Lib.hid hx
    clear hx
    by_cases hlt : k < f.len
    · have hlr : Sl wr (· < B) f A cap := hl.below (hb.mono hB)
      obtain ⟨b, o, v, A', cap', rfl, hS, hv, hrd, h0, h1, h2, h3⟩ := hlr.at_ hlt
      have HV := Lib.hid hv
      clear hv
      go_wp2_with fail
      refine (HF.out v (List.mem_of_getElem? HV.out) A' cap' wr hrd (Nat.le_trans hB hb.size)).mono ?_
      rintro e w' ⟨rfl, hb2⟩
      have hb3 : Below w.heap.size w w' := hb.trans (hb2.mono hb.size)
      clear hb hb2
      by_cases hp : p v = true
      · have HP := Lib.hid hp
        go_wp2
        go_ret
        refine ⟨ret_int ?_, hb3⟩
        rw [HX.out, List.drop_eq_getElem_cons (by rw [F.len_toList]; exact hlt)]
        have : f.toList[k]'(by rw [F.len_toList]; exact hlt) = v := by have := HV.out; rw [List.getElem?_eq_getElem (by rw [F.len_toList]; exact hlt)] at this; injection this
        simp [fidx, this, hp]
      · have hp' : p v = false := by simpa using hp
        clear hp
        go_wp2
        go_roundw
        case rel =>
          refine ⟨k + 1, by omega, by go_num, hb3, ?_⟩
          rw [HX.out, List.drop_eq_getElem_cons (by rw [F.len_toList]; exact hlt)]
          have : f.toList[k]'(by rw [F.len_toList]; exact hlt) = v := by have := HV.out; rw [List.getElem?_eq_getElem (by rw [F.len_toList]; exact hlt)] at this; injection this
          simp [fidx, this, hp']
        case measure => simp [intOf]; omega
    · obtain rfl : k = f.len := by omega
      go_wp2
      go_ret
      refine ⟨ret_int ?_, hb⟩
      rw [HX.out, List.drop_of_length_le (by rw [F.len_toList]; exact Nat.le_refl _)]
      rfl

theorem fidx_any (p : V → Bool) : ∀ (l : List V) (i : Nat), (0 ≤ fidx p l i) ↔ l.any p = true
  | [], i => by simp [fidx]
  | v :: r, i => by
    unfold fidx
    by_cases h : p v = true
    · simp [h]
    · rw [if_neg h, fidx_any p r (i + 1)]
      simp [h]

theorem fidx_lo (p : V → Bool) (l : List V) (i : Nat) : -1 ≤ fidx p l i ∧ fidx p l i ≤ i + l.length := by
  induction l generalizing i with
  | nil => simp [fidx]
  | cons v r ih =>
    unfold fidx
    have := ih (i + 1)
    split
    · simp; omega
    · simp at this ⊢; omega

set_option maxHeartbeats 400000 in
theorem containsFunc_any (B : Nat) (f : F) (A : Option Addr) (cap : Nat) (p : V → Bool) (w : World) (hB : B ≤ w.heap.size) (hl : Sl w (· < B) f A cap)
    (hf : ∀ v ∈ f.toList, ∀ A cap w', RdV w' (· < B) v A cap → B ≤ w'.heap.size → Calls Try.prog 46 #[v.val A cap] w' fun e w'' => e = .returned (.bool (p v)) ∧ Below w'.heap.size w' w'') :
    Calls Try.prog 45 #[.slice A f.len cap, .func (.func 46) #[] #[]] w fun e w' => e = .returned (.bool (f.toList.any p)) ∧ Below w.heap.size w w' := by
  have C := Lib.hid (indexFunc_any B f A cap p w hB hl hf)
  have hx := fidx_any p f.toList 0
  have hr := fidx_lo p f.toList 0
  generalize fidx p f.toList 0 = x at *
  have HX := Lib.hid hx
  clear hx hf
  go_enter Try.func45, Try.ntmps45
  go_wp2_with fail
  refine C.out.mono ?_
  rintro e w' ⟨rfl, hb⟩
  go_wp2
  go_ret
  refine ⟨ret_bool ?_, hb⟩
  rw [Bool.eq_iff_iff]
  simpa using HX.out

theorem ibeq0 (n : Nat) : ((n : Int) == 0) = decide (n = 0) := by
  rw [Bool.eq_iff_iff]
  simp
theorem ibeq (m n : Nat) : ((m : Int) == (n : Int)) = decide (m = n) := by
  rw [Bool.eq_iff_iff]
  simp
  omega

def empty (s : ByteArray) : Bool := s.toList.isEmpty
def wf1 (k n : Int) (s : ByteArray) (len : Nat) (kids : Bool) : Bool :=
  if k = 1 then empty s && decide (len = 0) else if k = 2 then decide (n = 0) && decide (len = 0) else if k = 3 then decide (n = 0) && empty s && kids else false
def F.wf : F → Bool
  | .nil => true
  | .cons k n s l r => wf1 k n s l.len l.wf && r.wf
def V.wf (v : V) : Bool := wf1 v.k v.n v.s v.l.len v.l.wf
theorem F.wf_all (f : F) : f.wf = f.toList.all V.wf := by
  induction f with
  | nil => rfl
  | cons k n s l r _ ih => simp [F.wf, F.toList, V.wf, ih]
theorem F.any_not (f : F) : f.toList.any (fun v => !v.wf) = !f.wf := by
  rw [F.wf_all, List.not_all_eq_any_not]

set_option maxHeartbeats 400000 in
theorem wellFormed_step (B : Nat) (v : V) (A : Option Addr) (cap : Nat) (w : World) (hB : B ≤ w.heap.size) (hv : RdV w (· < B) v A cap)
    (hf : ∀ u ∈ v.l.toList, ∀ A cap w', RdV w' (· < B) u A cap → B ≤ w'.heap.size → Calls Try.prog 46 #[u.val A cap] w' fun e w'' => e = .returned (.bool (!u.wf)) ∧ Below w'.heap.size w' w'') :
    Calls Try.prog 32 #[v.val A cap] w fun e w' => e = .returned (.bool v.wf) ∧ Below w.heap.size w w' := by
  have hm := hv.2.2.1
  have hm2 := hv.2.1
  unfold maxLen at hm
  have hb : ∀ c : Array Value, Below w.heap.size w (w.alloc (.cells c 24)) := fun c => (Below.refl _ _).alloc (Nat.le_refl _) _
  have HF := Lib.hid hf
  clear hf
  by_cases h3 : v.k = 3
  · by_cases hn : v.n = 0
    · by_cases hs : v.s.toList = []
      · have C := Lib.hid (containsFunc_any B v.l A cap (fun u => !u.wf) (w.alloc (.cells #[.int .i64 3, .int .i64 0, .string v.s, .slice A v.l.len cap] 24)) (by simp; omega) (hv.2.below ((hb _).mono hB)) HF.out)
        have hres : v.wf = !v.l.toList.any (fun u => !u.wf) := by rw [F.any_not]; simp [V.wf, wf1, h3, hn, empty, hs]
        have HR := Lib.hid hres
        clear hres
        go_enter Try.func32, Try.ntmps32
        go_wp2_with fail
        refine C.out.mono ?_
        rintro e w' ⟨rfl, hb2⟩
        go_wp2
        go_ret
        exact ⟨ret_bool HR.out.symm, (hb _).trans (hb2.mono (by simp))⟩
      · go_enter Try.func32, Try.ntmps32
        go_wp2_with fail
        go_ret
        refine ⟨ret_bool ?_, hb _⟩
        simp [V.wf, wf1, h3, hn, empty, hs]
    · go_enter Try.func32, Try.ntmps32
      go_wp2_with fail
      go_ret
      refine ⟨ret_bool ?_, hb _⟩
      simp [V.wf, wf1, h3, hn]
  · by_cases h1 : v.k = 1
    · by_cases hs : v.s.toList = []
      all_goals
        go_enter Try.func32, Try.ntmps32
        go_wp2_with fail
        go_ret
        refine ⟨ret_bool ?_, hb _⟩
        simp [V.wf, wf1, h1, hs, empty, ibeq0]
    · by_cases h2 : v.k = 2
      · by_cases hn : v.n = 0
        all_goals
          go_enter Try.func32, Try.ntmps32
          go_wp2_with fail
          go_ret
          refine ⟨ret_bool ?_, hb _⟩
          simp [V.wf, wf1, h2, hn, ibeq0]
      · go_enter Try.func32, Try.ntmps32
        go_wp2_with fail
        go_ret
        refine ⟨ret_bool ?_, hb _⟩
        simp [V.wf, wf1, h1, h2, h3]

set_option maxHeartbeats 400000 in
theorem malformed_of (B : Nat) (v : V) (A : Option Addr) (cap : Nat) (w : World)
    (h : ∀ w', RdV w' (· < B) v A cap → B ≤ w'.heap.size → Calls Try.prog 32 #[v.val A cap] w' fun e w'' => e = .returned (.bool v.wf) ∧ Below w'.heap.size w' w'')
    (hv : RdV w (· < B) v A cap) (hB : B ≤ w.heap.size) :
    Calls Try.prog 46 #[v.val A cap] w fun e w' => e = .returned (.bool (!v.wf)) ∧ Below w.heap.size w w' := by
  have hb : ∀ c : Array Value, Below w.heap.size w (w.alloc (.cells c 24)) := fun c => (Below.refl _ _).alloc (Nat.le_refl _) _
  have C := Lib.hid (h (w.alloc (.cells #[.int .i64 v.k, .int .i64 v.n, .string v.s, .slice A v.l.len cap] 24)) (hv.below ((hb _).mono hB)) (by simp; omega))
  clear h
  go_enter Try.func46, Try.ntmps46
  go_wp2_with fail
  refine C.out.mono ?_
  rintro e w' ⟨rfl, hb2⟩
  go_wp2
  go_ret
  exact ⟨rfl, (hb _).trans (hb2.mono (by simp))⟩

theorem wellFormed_all (v : V) : ∀ (B : Nat) (A : Option Addr) (cap : Nat) (w : World), RdV w (· < B) v A cap → B ≤ w.heap.size →
    Calls Try.prog 32 #[v.val A cap] w fun e w' => e = .returned (.bool v.wf) ∧ Below w.heap.size w w' := by
  refine V.ind (P := fun v => ∀ (B : Nat) (A : Option Addr) (cap : Nat) (w : World), RdV w (· < B) v A cap → B ≤ w.heap.size →
    Calls Try.prog 32 #[v.val A cap] w fun e w' => e = .returned (.bool v.wf) ∧ Below w.heap.size w w') (fun v ih => ?_) v
  intro B A cap w hv hB
  exact wellFormed_step B v A cap w hB hv fun u hu A cap w' hr hw => malformed_of B u A cap w' (ih u hu B A cap) hr hw
end Go.Proofs.Ytomiacedailmaaa
