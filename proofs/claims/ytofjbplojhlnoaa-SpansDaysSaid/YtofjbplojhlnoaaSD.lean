/- Spans: the first day that is wanted; runs. -/
import Derived.Test.YtofjbplojhlnoaaSC
namespace Go.Proofs.Ytofjbplojhlnoaa
open Go.RowKit

set_option maxRecDepth 100000 in
set_option maxHeartbeats 1600000 in
theorem next_all (l : List Bool) (hl : l.length = 1024) (g : Nat) (n : Nat) (v : Bool) (w : World) (hn : n ≤ 1024) (hr : Rw w g 58 (l.map Value.bool)) :
    Calls Try.prog 39 #[.pointer (some ⟨g, 0, none⟩), .int .i64 n, .bool v] w fun e w' => (∃ r : Nat, e = .returned (.int .i64 r) ∧ n ≤ r ∧ r ≤ 1024 ∧ (∀ j, n ≤ j → j < r → l[j]? = some (!v)) ∧ (r < 1024 → l[r]? = some v)) ∧ w' = w := by
  have HR := Lib.hid hr
  have HL := Lib.hid hl
  clear hr hl
  go_enter Try.func39, Try.ntmps39
  go_wp2_with fail
  go_loop [1] (fun x => ∃ k : Nat, n ≤ k ∧ k ≤ 1024 ∧ x = .int .i64 k ∧ Hid (∀ j, n ≤ j → j < k → l[j]? = some (!v))) (fun x => 1024 - (intOf x).toNat)
  case atStart => exact ⟨n, Nat.le_refl _, hn, rfl, Lib.hid (fun j h1 h2 => by omega)⟩
  case round =>
    obtain ⟨k, hk1, hk2, rfl, HJ⟩ := hrel
    by_cases hlt : k < 1024
    · obtain ⟨b, hb⟩ : ∃ b, l[k]? = some b := ⟨_, List.getElem?_eq_getElem (by rw [HL.out]; exact hlt)⟩
      have hc : w.cell? ⟨g, k, none⟩ = some (.bool b) := HR.out.cell (by simp [hb])
      have HB := Lib.hid hb
      clear hb
      by_cases hbv : b = v
      · subst hbv
        go_wp2_with fail
        go_ret
        exact ⟨⟨k, rfl, hk1, hk2, HJ.out, fun _ => HB.out⟩, rfl⟩
      · obtain rfl : b = !v := by cases b <;> cases v <;> simp_all
        have hx : ((!v) == v) = false := by cases v <;> rfl
        have hx2 : ((!v) != v) = true := by cases v <;> rfl
        go_wp2_with fail
        go_round
        case rel => exact ⟨k + 1, by omega, by omega, by go_num, Lib.hid (fun j h1 h2 => by
          by_cases hj : j = k
          · subst hj; exact HB.out
          · exact HJ.out j h1 (by omega))⟩
        case measure => simp [intOf]; omega
    · obtain rfl : k = 1024 := by omega
      go_wp2_with fail
      go_ret
      exact ⟨⟨1024, rfl, hk1, hk2, HJ.out, fun h => by omega⟩, rfl⟩

theorem drop_split (l : List Bool) (v : Bool) : ∀ (d n : Nat), (∀ j, n ≤ j → j < n + d → l[j]? = some v) → l.drop n = List.replicate d v ++ l.drop (n + d)
  | 0, n, _ => by simp
  | d + 1, n, h => by
    have h0 := h n (Nat.le_refl _) (by omega)
    obtain ⟨hn, e⟩ := List.getElem?_eq_some_iff.1 h0
    rw [List.drop_eq_getElem_cons hn, e, drop_split l v d (n + 1) (fun j h1 h2 => h j (by omega) (by omega)), List.replicate_succ, show n + 1 + d = n + (d + 1) by omega]
    rfl
/-- the next run, and what is behind it -/
theorem rn_next (l : List Bool) (hl : l.length = 1024) (n a b : Nat) (h1 : n ≤ a) (_ : a ≤ b) (h3 : b ≤ 1024) (ha : ∀ j, n ≤ j → j < a → l[j]? = some false) (hb : ∀ j, a ≤ j → j < b → l[j]? = some true) (hbb : b < 1024 → l[b]? = some false) :
    rn n (l.drop n) = if a < b then ((a : Int), (b : Int)) :: rn b (l.drop b) else rn a (l.drop a) := by
  rw [drop_split l false (a - n) n (fun j h4 h5 => ha j h4 (by omega)), rn_skip, show n + (a - n) = a by omega]
  by_cases hab : a < b
  · rw [if_pos hab]
    have hd := drop_split l true (b - a) a (fun j h4 h5 => hb j h4 (by omega))
    rw [show a + (b - a) = b by omega] at hd
    obtain ⟨d, hd2⟩ : ∃ d, b - a = d + 1 := ⟨b - a - 1, by omega⟩
    rw [hd, hd2, rn_run, show a + d + 1 = b by omega, show (a : Int) + d + 1 = b by omega]
    by_cases hb2 : b < 1024
    · have := hbb hb2
      rw [List.head?_drop, this]
      simp
    · rw [List.drop_of_length_le (by omega)]
      simp
  · rw [if_neg hab]
theorem rn_end (l : List Bool) (hl : l.length = 1024) : rn 1024 (l.drop 1024) = [] := by
  rw [List.drop_of_length_le (by omega)]
  rfl
end Go.Proofs.Ytofjbplojhlnoaa
