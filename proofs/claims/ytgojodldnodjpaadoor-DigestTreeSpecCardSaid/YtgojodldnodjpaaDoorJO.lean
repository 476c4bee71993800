/- Digest: Path; climbing. -/
import Derived.Test.YtgojodldnodjpaaDoorJN
namespace Go.Proofs.YtgojodldnodjpaaDoor
open Go.RowKit

set_option maxHeartbeats 1600000 in
theorem path_no (L : List (List UInt8)) (i : Int) (A : Option Addr) (cap : Nat) (w : World) (hi : i < 0 ∨ (L.length : Int) ≤ i) (hm : L.length ≤ 1099511627776) :
    Calls Tryd.prog 19 #[.slice A L.length cap, .int .i64 i] w fun e w' => e = .returned (.tuple #[.slice none 0 0, .int .i64 1]) ∧ w' = w := by
  rcases hi with hi | hi
  · go_enter Tryd.func19, Tryd.ntmps19
    go_wp2_with fail
    exact bodyPost_ret (v := .tuple #[.slice none 0 0, .int .i64 1]) (by simp [results, Tryd.results19]) rfl ⟨rfl, rfl⟩
  · have h0 : ¬ i < 0 := by omega
    go_enter Tryd.func19, Tryd.ntmps19
    go_wp2_with fail
    exact bodyPost_ret (v := .tuple #[.slice none 0 0, .int .i64 1]) (by simp [results, Tryd.results19]) rfl ⟨rfl, rfl⟩

set_option maxHeartbeats 1600000 in
theorem path_yes (f : Nat) (L : List (List UInt8)) (i : Nat) (A : Option Addr) (cap : Nat) (w : World) (hf : L.length ≤ f) (hf2 : f ≤ 1099511627776) (hi : i < L.length) (hl : DL w (· < w.heap.size) L A cap) (hk : KR w Kt) :
    Calls Tryd.prog 19 #[.slice A L.length cap, .int .i64 i] w fun e w' => ∃ A' c', e = .returned (.tuple #[.slice A' (pth f L i).length c', .int .i64 0]) ∧ OwnD w' w.heap.size (.slice A' (pth f L i).length c') (pth f L i) ∧ Below w.heap.size w w' := by
  have C := Lib.hid (pathof_all f L i A cap w hf hf2 hi hl hk)
  have hi2 : (i : Int) < L.length := by omega
  clear hl hk
  go_enter Tryd.func19, Tryd.ntmps19
  go_wp2_with fail
  refine C.out.mono ?_
  rintro e w2 ⟨v, rfl, ho, hb⟩
  obtain ⟨A', c', rfl⟩ := ho.slice
  have HO := Lib.hid ho
  have HB := Lib.hid hb
  clear ho hb C
  go_wp2_with fail
  exact bodyPost_ret (v := .tuple #[.slice A' (pth f L i).length c', .int .i64 0]) (by simp [results, Tryd.results19]) rfl ⟨A', c', rfl, HO.out, HB.out⟩

/-- what a path leads to -/
def clm : Nat → List UInt8 → Nat → Nat → List (List UInt8) → List UInt8
  | 0, d, _, _, _ => leafd d
  | f + 1, d, i, n, P => if n ≤ 1 then leafd d else if i < hf n then noded (clm f d i (hf n) P.dropLast) (P.getLastD []) else noded (P.getLastD []) (clm f d (i - hf n) (n - hf n) P.dropLast)
theorem clm_len (f : Nat) (d : List UInt8) (i n : Nat) (P : List (List UInt8)) : (clm f d i n P).length = 32 := by
  cases f with
  | zero => exact tagd_len _ _
  | succ f =>
    rw [clm]
    split
    · exact tagd_len _ _
    · split <;> exact tagd_len _ _
/-- climbing the path of an element leads to the digest of the list -/
theorem clm_pth (f : Nat) : ∀ (L : List (List UInt8)) (i : Nat) (d : List UInt8), L.length ≤ f → L.length ≤ 2 ^ 64 → L[i]? = some d → clm f d i L.length (pth f L i) = tree f L := by
  induction f with
  | zero =>
    intro L i d h _ hd
    obtain rfl : L = [] := List.eq_nil_of_length_eq_zero (by omega)
    simp at hd
  | succ f ih =>
    intro L i d h1 h2 hd
    have hi : i < L.length := (List.getElem?_eq_some_iff.1 hd).1
    rw [clm, pth]
    by_cases hn : L.length ≤ 1
    · rw [if_pos hn]
      obtain ⟨x, rfl⟩ := List.length_eq_one_iff.1 (show L.length = 1 by omega)
      obtain rfl : i = 0 := by simp at hi; omega
      simp at hd
      subst hd
      rfl
    · obtain ⟨k, _, _, hk1, hk2, hk3⟩ := hf_spec L.length (by omega) h2
      rw [if_neg hn, if_neg hn, tree_two f L (by omega)]
      have e1 : (L.take (hf L.length)).length = hf L.length := by rw [List.length_take]; omega
      have e2 : (L.drop (hf L.length)).length = L.length - hf L.length := by rw [List.length_drop]
      by_cases hik : i < hf L.length
      · rw [if_pos hik, if_pos hik]
        have := ih (L.take (hf L.length)) i d (by omega) (by omega) (by rw [List.getElem?_take, if_pos hik]; exact hd)
        rw [e1] at this
        rw [List.dropLast_concat, this]
        simp
      · rw [if_neg hik, if_neg hik]
        have := ih (L.drop (hf L.length)) (i - hf L.length) d (by omega) (by omega) (by rw [List.getElem?_drop, show hf L.length + (i - hf L.length) = i by omega]; exact hd)
        rw [e2] at this
        rw [List.dropLast_concat, this]
        simp

theorem dropLast_take (P : List (List UInt8)) : P.dropLast = P.take (P.length - 1) := by rw [List.dropLast_eq_take]
theorem last_get (P : List (List UInt8)) (h : 0 < P.length) : P[P.length - 1]? = some (P.getLastD []) := by
  cases P with
  | nil => simp at h
  | cons p P => rw [← List.getLast?_eq_getElem?]; simp [List.getLast?_cons]
end Go.Proofs.YtgojodldnodjpaaDoor
