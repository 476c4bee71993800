/- Codec: Same, of the program and of the reference. -/
import Derived.Test.YtomiacedailmaaaCF
import Derived.StillTailTactics
namespace Go.Proofs.Ytomiacedailmaaa
open Go.RowKit

theorem bs_eq {s t : ByteArray} : s.toList = t.toList ↔ s = t := by
  constructor
  · intro h
    rw [ByteArray.toList_eq, ByteArray.toList_eq] at h
    exact ByteArray.ext (Array.toList_inj.1 h)
  · intro h
    rw [h]

theorem below_alloc2 (w : World) (o o' : Obj) : Below w.heap.size w ((w.alloc o).alloc o') := ((Below.refl _ _).alloc (Nat.le_refl _) o).alloc (by simp) o'
theorem keep2 (w : World) (o o' : Obj) {B : Nat} (hB : B ≤ w.heap.size) : ∀ i, i < B → i < B ∧ ((w.alloc o).alloc o').heap[i]? = w.heap[i]? := fun i hi =>
  ⟨hi, by rw [Below.heap_alloc _ _ _ (by simp; omega), Below.heap_alloc _ _ _ (by omega)]⟩

set_option maxRecDepth 100000 in
set_option maxHeartbeats 400000 in
theorem same_all (v : V) : ∀ (u : V) (B : Nat) (A A2 : Option Addr) (cap cap2 : Nat) (w : World), RdV w (· < B) v A cap → RdV w (· < B) u A2 cap2 → B ≤ w.heap.size →
    Calls Try.prog 21 #[v.val A cap, u.val A2 cap2] w fun e w' => e = .returned (.bool (v.same u)) ∧ Below w.heap.size w w' := by
  refine V.ind (P := fun v => ∀ (u : V) (B : Nat) (A A2 : Option Addr) (cap cap2 : Nat) (w : World), RdV w (· < B) v A cap → RdV w (· < B) u A2 cap2 → B ≤ w.heap.size →
    Calls Try.prog 21 #[v.val A cap, u.val A2 cap2] w fun e w' => e = .returned (.bool (v.same u)) ∧ Below w.heap.size w w') (fun v ih => ?_) v
  intro u B A A2 cap cap2 w hv hu hB
  have hb0 := fun o o' => below_alloc2 w o o'
  have IH := Lib.hid ih
  clear ih
  by_cases hk : v.k = u.k
  · by_cases hn : v.n = u.n
    · by_cases hs : v.s.toList = u.s.toList
      · have C := Lib.hid (fun o o' => equalFunc_any B v.l u.l A A2 cap cap2 ((w.alloc o).alloc o') (by simp; omega) (hv.2.keep (keep2 w o o' hB))
          (hu.2.keep (keep2 w _ _ hB)) (fun x hx y A cap A2 cap2 w' h1 h2 h3 => IH.out x hx y B A A2 cap cap2 w' h1 h2 h3))
        have hres : v.same u = v.l.same u.l := by simp [V.same, hk, hn, bs_eq.1 hs]
        have HR := Lib.hid hres
        clear hres
        go_enter Try.func21, Try.ntmps21
        go_wp2_with fail
        refine (C.out _ _).mono ?_
        rintro e w' ⟨rfl, hb⟩
        have hb1 : Below w.heap.size w w' := (hb0 _ _).trans (hb.mono (by simp; omega))
        clear hb hb0 C hs hn hk
        go_wp2
        go_ret
        exact ⟨ret_bool HR.out.symm, hb1⟩
      · go_enter Try.func21, Try.ntmps21
        go_wp2_with fail
        go_ret
        exact ⟨ret_bool (by have : ¬ v.s = u.s := fun h => hs (bs_eq.2 h); simp [V.same, this]), hb0 _ _⟩
    · go_enter Try.func21, Try.ntmps21
      go_wp2_with fail
      go_ret
      exact ⟨ret_bool (by simp [V.same, hn]), hb0 _ _⟩
  · go_enter Try.func21, Try.ntmps21
    go_wp2_with fail
    go_ret
    exact ⟨ret_bool (by simp [V.same, hk]), hb0 _ _⟩

set_option maxRecDepth 100000 in
set_option maxHeartbeats 800000 in
theorem rsame_all (v : V) : ∀ (u : V) (B : Nat) (A A2 : Option Addr) (cap cap2 : Nat) (w : World), RdV w (· < B) v A cap → RdV w (· < B) u A2 cap2 → B ≤ w.heap.size →
    Calls Try.prog 20 #[v.val A cap, u.val A2 cap2] w fun e w' => e = .returned (.bool (v.same u)) ∧ Below w.heap.size w w' := by
  refine V.ind (P := fun v => ∀ (u : V) (B : Nat) (A A2 : Option Addr) (cap cap2 : Nat) (w : World), RdV w (· < B) v A cap → RdV w (· < B) u A2 cap2 → B ≤ w.heap.size →
    Calls Try.prog 20 #[v.val A cap, u.val A2 cap2] w fun e w' => e = .returned (.bool (v.same u)) ∧ Below w.heap.size w w') (fun v ih => ?_) v
  intro u B A A2 cap cap2 w hv hu hB
  have hm := hv.2.2.1
  have hm2 := hv.2.1
  unfold maxLen at hm
  have hb0 := fun o o' => below_alloc2 w o o'
  have IH := Lib.hid ih
  clear ih
  by_cases hk : v.k = u.k
  · by_cases hn : v.n = u.n
    · by_cases hs : v.s.toList = u.s.toList
      · by_cases hlen : v.l.len = u.l.len
        · have hlenb : ((v.l.len : Int) == (u.l.len : Int)) = true := by rw [ibeq]; simpa using hlen
          have hlenn : ((v.l.len : Int) != (u.l.len : Int)) = false := by rw [bne, hlenb]; rfl
          have HLEN := Lib.hid hlen
          have hlt0 : v.l.len ≤ u.l.len := by omega
          have hlt1 : u.l.len ≤ v.l.len := by omega
          clear hlen
          go_enter Try.func20, Try.ntmps20
          go_wp2_with fail
          go_loopw [5] (fun i wr => ∃ k : Nat, k ≤ v.l.len ∧ i = .int .i64 k ∧ Below (w.heap.size + 2) ((w.alloc (.cells #[.int .i64 u.k, .int .i64 u.n, .string v.s, .slice A v.l.len cap] 24)).alloc (.cells #[.int .i64 u.k, .int .i64 u.n, .string u.s, .slice A2 u.l.len cap2] 24)) wr ∧ v.l.toList.take k = u.l.toList.take k) (fun i _ => v.l.len - (intOf i).toNat)
          case atStart => exact ⟨0, Nat.zero_le _, rfl, Below.refl _ _, rfl⟩
          case round =>
            obtain ⟨k, hkk, rfl, hb, htk⟩ := hrel
            have HT := Lib.hid htk
            clear htk
            have hb1 : Below w.heap.size w wr := (hb0 _ _).trans (hb.mono (by omega))
            have hbox : wr.cell? ⟨w.heap.size, 3, none⟩ = some (.slice A v.l.len cap) := by
              rw [hb.cell (p := ⟨w.heap.size, 3, none⟩) (by simp), World.cell?_alloc_past _ _ _ (by simp), World.cell?_alloc_at _ _ _ _ rfl]; rfl
            have hbox2 : wr.cell? ⟨w.heap.size + 1, 3, none⟩ = some (.slice A2 u.l.len cap2) := by
              rw [hb.cell (p := ⟨w.heap.size + 1, 3, none⟩) (by simp), World.cell?_alloc_at _ _ _ _ (by simp)]; rfl
            by_cases hlt : k < v.l.len
            · have hlr : Sl wr (· < B) v.l A cap := hv.2.below (hb1.mono hB)
              have hlr2 : Sl wr (· < B) u.l A2 cap2 := hu.2.below (hb1.mono hB)
              obtain ⟨b, o, x, A', cap', rfl, hS, hx, hrd, h0, h1, h2, h3⟩ := hlr.at_ hlt
              obtain ⟨b2, o2, x2, A3, cap3, rfl, hS2, hx2, hrd2, h02, h12, h22, h32⟩ := hlr2.at_ (i := k) (by omega)
              have HX := Lib.hid hx
              have HX2 := Lib.hid hx2
              clear hx hx2
              have hlt2 : k < u.l.len := by omega
              have C := Lib.hid (fun ww (hw : ∀ i, i < B → i < B ∧ ww.heap[i]? = wr.heap[i]?) hs => IH.out x (List.mem_of_getElem? HX.out) x2 B A' A3 cap' cap3 ww (hrd.keep hw) (hrd2.keep hw) hs)
              go_wp2_with fail
              go_still_tail 10, (by kernel_rfl)
              change wpList _ _ _ _ _ wr.drew
              go_wp2_with fail
              refine (C.out wr.drew (fun i hi => ⟨hi, rfl⟩) (by have := hb1.size; simp; omega)).mono ?_
              rintro e w' ⟨rfl, hb3⟩
              have hb4 := hb.drew.trans (hb3.mono (by have := hb.size; simpa using this))
              clear hb hb1 hb3
              by_cases hsm : x.same x2 = true
              · have HS := Lib.hid hsm
                go_wp2
                go_roundw
                case rel =>
                  refine ⟨k + 1, by omega, by go_num, hb4, ?_⟩
                  rw [take_at HX.out, take_at HX2.out, HT.out, (V.same_iff _ _).1 HS.out]
                case measure => simp [intOf]; omega
              · have hs' : x.same x2 = false := by simpa using hsm
                have HS := Lib.hid hsm
                clear hsm
                go_wp2
                go_ret
                refine ⟨ret_bool ?_, (hb0 _ _).trans (hb4.mono (by omega))⟩
                symm
                rw [Bool.eq_false_iff]
                intro h
                have e := (V.same_iff _ _).1 h
                subst e
                have := HX.out
                rw [HX2.out] at this
                injection this with this
                exact HS.out ((V.same_iff _ _).2 this.symm)
            · obtain rfl : k = v.l.len := by omega
              have hres : v.same u = true := by
                have := HT.out
                rw [List.take_of_length_le (by rw [F.len_toList]; exact Nat.le_refl _), List.take_of_length_le (by rw [F.len_toList]; omega)] at this
                simp [V.same, hk, hn, bs_eq.1 hs, F.same_iff, F.toList_inj this]
              have HR := Lib.hid hres
              clear hres
              go_wp2
              go_ret
              exact ⟨ret_bool HR.out.symm, hb1⟩
        · have hlenb : ((v.l.len : Int) == (u.l.len : Int)) = false := by rw [ibeq]; simpa using hlen
          have hlenn : ((v.l.len : Int) != (u.l.len : Int)) = true := by rw [bne, hlenb]; rfl
          have HLEN := Lib.hid hlen
          clear hlen
          go_enter Try.func20, Try.ntmps20
          go_wp2_with fail
          go_ret
          refine ⟨ret_bool ?_, hb0 _ _⟩
          symm
          rw [Bool.eq_false_iff]
          intro h
          exact HLEN.out (by rw [(V.same_iff _ _).1 h])
      · go_enter Try.func20, Try.ntmps20
        go_wp2_with fail
        go_ret
        exact ⟨ret_bool (by have : ¬ v.s = u.s := fun h => hs (bs_eq.2 h); simp [V.same, this]), hb0 _ _⟩
    · go_enter Try.func20, Try.ntmps20
      go_wp2_with fail
      go_ret
      exact ⟨ret_bool (by simp [V.same, hn]), hb0 _ _⟩
  · go_enter Try.func20, Try.ntmps20
    go_wp2_with fail
    go_ret
    exact ⟨ret_bool (by simp [V.same, hk]), hb0 _ _⟩
end Go.Proofs.Ytomiacedailmaaa
