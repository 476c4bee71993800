/- Spans: sets of days, plain. -/
import Derived.Lib.Hide
namespace Go.Proofs.Ytofjbplojhlnoaa

abbrev Sp := Int × Int
/-- the longest runs of days -/
def rn : Nat → List Bool → List Sp
  | _, [] => []
  | k, false :: l => rn (k + 1) l
  | k, true :: l => match rn (k + 1) l with
    | [] => [((k : Int), (k : Int) + 1)]
    | p :: r => if p.1 = (k : Int) + 1 then ((k : Int), p.2) :: r else ((k : Int), (k : Int) + 1) :: p :: r
theorem rn_true (k : Nat) (l : List Bool) : rn k (true :: l) = match rn (k + 1) l with
    | [] => [((k : Int), (k : Int) + 1)]
    | p :: r => if p.1 = (k : Int) + 1 then ((k : Int), p.2) :: r else ((k : Int), (k : Int) + 1) :: p :: r := by rw [rn]
theorem rn_false (k : Nat) (l : List Bool) : rn k (false :: l) = rn (k + 1) l := by rw [rn]

theorem rn_lo : ∀ (l : List Bool) (k : Nat) (p : Sp), p ∈ rn k l → (k : Int) ≤ p.1 ∧ p.1 < p.2 ∧ p.2 ≤ (k : Int) + l.length
  | [], k, p, h => by simp [rn] at h
  | false :: l, k, p, h => by
    rw [rn_false] at h
    have := rn_lo l (k + 1) p h
    simp only [List.length_cons]
    omega
  | true :: l, k, p, h => by
    have ih := rn_lo l (k + 1)
    rw [rn_true] at h
    cases hr : rn (k + 1) l with
    | nil =>
      rw [hr] at h
      simp at h
      subst h
      simp only [List.length_cons]
      omega
    | cons q r =>
      rw [hr] at h ih
      have hq := ih q (List.mem_cons_self ..)
      simp only [List.length_cons]
      simp only at h
      split at h
      · rcases List.mem_cons.1 h with rfl | h
        · simp only; omega
        · have := ih p (List.mem_cons_of_mem _ h); omega
      · rcases List.mem_cons.1 h with rfl | h
        · simp only; omega
        · have := ih p h; omega
theorem rn_apart : ∀ (l : List Bool) (k : Nat), (rn k l).Pairwise fun p q => p.2 < q.1
  | [], k => by simp [rn]
  | false :: l, k => by rw [rn_false]; exact rn_apart l (k + 1)
  | true :: l, k => by
    have ih := rn_apart l (k + 1)
    have lo := rn_lo l (k + 1)
    rw [rn_true]
    cases hr : rn (k + 1) l with
    | nil => simp
    | cons q r =>
      rw [hr] at ih lo
      have hq := lo q (List.mem_cons_self ..)
      rw [List.pairwise_cons] at ih
      simp only
      split
      · rw [List.pairwise_cons]
        exact ⟨fun p hp => ih.1 p hp, ih.2⟩
      · rw [List.pairwise_cons]
        refine ⟨fun p hp => ?_, List.pairwise_cons.2 ih⟩
        rcases List.mem_cons.1 hp with rfl | hp
        · simp only; omega
        · have := lo p (List.mem_cons_of_mem _ hp)
          have h2 := ih.1 p hp
          simp only
          omega
def hit (L : List Sp) (m : Int) : Bool := L.any fun p => decide (p.1 ≤ m) && decide (m < p.2)
theorem hit_iff (L : List Sp) (m : Int) : hit L m = true ↔ ∃ p ∈ L, p.1 ≤ m ∧ m < p.2 := by simp [hit]
theorem hit_cons (p : Sp) (L : List Sp) (m : Int) : hit (p :: L) m = (decide (p.1 ≤ m) && decide (m < p.2) || hit L m) := rfl
theorem rn_hit : ∀ (l : List Bool) (k : Nat) (m : Nat), hit (rn k l) m = (decide (k ≤ m) && l.getD (m - k) false)
  | [], k, m => by simp [rn, hit]
  | false :: l, k, m => by
    rw [rn_false, rn_hit l (k + 1) m]
    by_cases h : k + 1 ≤ m
    · rw [show m - k = (m - (k + 1)) + 1 by omega]
      simp [h, show k ≤ m by omega]
    · by_cases h2 : k ≤ m
      · obtain rfl : k = m := by omega
        simp [show ¬ k + 1 ≤ k by omega]
      · simp [h, h2]
  | true :: l, k, m => by
    have ih := rn_hit l (k + 1) m
    have lo := rn_lo l (k + 1)
    have e : (decide (k ≤ m) && (true :: l).getD (m - k) false) = (decide (m = k) || (decide (k + 1 ≤ m) && l.getD (m - (k + 1)) false)) := by
      by_cases h : k + 1 ≤ m
      · rw [show m - k = (m - (k + 1)) + 1 by omega]
        simp [h, show k ≤ m by omega, show ¬ m = k by omega]
      · by_cases h2 : k ≤ m
        · obtain rfl : k = m := by omega
          simp
        · simp [h2, show ¬ m = k by omega, show ¬ k + 1 ≤ m by omega]
    rw [e, ← ih, rn_true]
    cases hr : rn (k + 1) l with
    | nil =>
      simp only [hit_cons]
      rw [Bool.eq_iff_iff]
      simp [hit]
      omega
    | cons q r =>
      rw [hr] at lo
      have hq := lo q (List.mem_cons_self ..)
      simp only
      split
      · rw [hit_cons, hit_cons, Bool.eq_iff_iff]
        simp
        have := hit_iff r m
        constructor
        · rintro (h | h)
          · by_cases h3 : m = k
            · exact .inl h3
            · exact .inr (.inl (by omega))
          · exact .inr (.inr h)
        · rintro (h | h | h)
          · exact .inl (by omega)
          · exact .inl (by omega)
          · exact .inr h
      · rw [hit_cons, Bool.eq_iff_iff]
        simp
        constructor
        · rintro (h | h)
          · exact .inl (by omega)
          · exact .inr h
        · rintro (h | h)
          · exact .inl (by omega)
          · exact .inr h

/-- the loop over the gaps -/
theorem rn_skip (l : List Bool) : ∀ (n k : Nat), rn k (List.replicate n false ++ l) = rn (k + n) l
  | 0, k => by simp
  | n + 1, k => by
    rw [List.replicate_succ, List.cons_append, rn_false, rn_skip l n (k + 1), show k + 1 + n = k + (n + 1) by omega]
theorem rn_run (l : List Bool) (hl : l.head? ≠ some true) : ∀ (n k : Nat), rn k (List.replicate (n + 1) true ++ l) = ((k : Int), (k : Int) + n + 1) :: rn (k + n + 1) l
  | 0, k => by
    rw [List.replicate_succ, List.replicate_zero, List.cons_append, List.nil_append, rn_true]
    have lo : ∀ p ∈ rn (k + 1) l, (k : Int) + 1 < p.1 := fun p hp => by
      match l, hl with
      | [], _ => simp [rn] at hp
      | false :: l, _ =>
        rw [rn_false] at hp
        have := rn_lo l _ p hp
        omega
      | true :: l, h => simp at h
    cases hr : rn (k + 1) l with
    | nil => simp
    | cons q r =>
      rw [hr] at lo
      have := lo q (List.mem_cons_self ..)
      simp only
      rw [if_neg (by omega)]
      simp
  | n + 1, k => by
    rw [List.replicate_succ, List.cons_append, rn_true, rn_run l hl n (k + 1)]
    simp only
    rw [if_pos (by omega), show k + 1 + n + 1 = k + (n + 1) + 1 by omega]
    congr 2
    omega

/-- one more day behind -/
def ad (L : List Sp) (m : Int) : List Sp := match L.getLast? with
  | none => [(m, m + 1)]
  | some p => if p.2 = m then L.dropLast ++ [(p.1, m + 1)] else L ++ [(m, m + 1)]
theorem ad_cons (p q : Sp) (r : List Sp) (m : Int) : ad (p :: q :: r) m = p :: ad (q :: r) m := by
  unfold ad
  rw [show (p :: q :: r).getLast? = (q :: r).getLast? by simp [List.getLast?_cons_cons]]
  cases hx : (q :: r).getLast? with
  | none => simp at hx
  | some x =>
    simp only
    split <;> simp
theorem rn_snoc_false : ∀ (l : List Bool) (k : Nat), rn k (l ++ [false]) = rn k l
  | [], k => by simp [rn]
  | false :: l, k => by rw [List.cons_append, rn_false, rn_false, rn_snoc_false l]
  | true :: l, k => by rw [List.cons_append, rn_true, rn_true, rn_snoc_false l]
theorem rn_snoc_true : ∀ (l : List Bool) (k : Nat), rn k (l ++ [true]) = ad (rn k l) ((k : Int) + l.length)
  | [], k => by simp [rn, ad]
  | false :: l, k => by
    rw [List.cons_append, rn_false, rn_false, rn_snoc_true l, List.length_cons]
    congr 1
    omega
  | true :: l, k => by
    have ih := rn_snoc_true l (k + 1)
    have em : ((k + 1 : Nat) : Int) + l.length = (k : Int) + (l.length + 1 : Nat) := by omega
    rw [em] at ih
    rw [List.cons_append, rn_true, rn_true, ih, List.length_cons]
    have hm : (k : Int) + 1 ≤ (k : Int) + (l.length + 1 : Nat) := by omega
    have h0 : rn (k + 1) l = [] → ¬ ((k : Int) + 1 = (k : Int) + (l.length + 1 : Nat)) → True := fun _ _ => trivial
    have lo := rn_lo l (k + 1)
    generalize (k : Int) + (l.length + 1 : Nat) = M at hm lo ⊢
    cases hr : rn (k + 1) l with
    | nil =>
      by_cases hM : M = (k : Int) + 1
      · subst hM; simp [ad]
      · simp [ad, hM, Ne.symm hM]
    | cons q r =>
      rw [hr] at lo
      have hq := lo q (List.mem_cons_self ..)
      cases r with
      | nil =>
        by_cases hM : q.2 = M
        · by_cases hk : q.1 = (k : Int) + 1
          · simp [ad, hM, hk]
          · simp [ad, hM, hk]
        · by_cases hk : q.1 = (k : Int) + 1
          · simp [ad, hM, hk]
          · simp [ad, hM, hk]
      | cons q2 r2 =>
        rw [ad_cons]
        simp only
        by_cases hk : q.1 = (k : Int) + 1
        · rw [if_pos hk, if_pos hk, ad_cons]
        · rw [if_neg hk, if_neg hk, ad_cons, ad_cons]

/-- a run that holds a span -/
theorem cover (L : List Sp) (h : L.Pairwise fun p q => p.2 < q.1) (h2 : ∀ p ∈ L, p.1 < p.2) (a b : Int) (hab : a < b) :
    (L.any fun p => decide (p.1 ≤ a) && decide (b ≤ p.2)) = true ↔ ∀ m, a ≤ m → m < b → hit L m = true := by
  constructor
  · intro hh m h1 h3
    obtain ⟨p, hp, hc⟩ := List.any_eq_true.1 hh
    simp at hc
    exact (hit_iff L m).2 ⟨p, hp, by omega, by omega⟩
  · intro hh
    obtain ⟨p, hp, h3, h4⟩ := (hit_iff L a).1 (hh a (by omega) hab)
    refine List.any_eq_true.2 ⟨p, hp, ?_⟩
    simp
    refine ⟨h3, ?_⟩
    by_cases hb : b ≤ p.2
    · exact hb
    · exfalso
      obtain ⟨q, hq, h5, h6⟩ := (hit_iff L p.2).1 (hh p.2 (by omega) (by omega))
      have hp2 := h2 p hp
      obtain ⟨i, hi, rfl⟩ := List.getElem_of_mem hp
      obtain ⟨j, hj, rfl⟩ := List.getElem_of_mem hq
      rw [List.pairwise_iff_getElem] at h
      rcases Nat.lt_trichotomy i j with hij | hij | hij
      · have := h i j hi hj hij; omega
      · subst hij; omega
      · have := h j i hj hi hij; have := h2 _ hq; omega

/-- the days of a list -/
def dy (L : List Sp) : List Bool := (List.range 1024).map fun m => hit L (m : Nat)
theorem dy_len (L : List Sp) : (dy L).length = 1024 := by simp [dy]
theorem dy_get (L : List Sp) (m : Nat) (h : m < (dy L).length) : (dy L)[m] = hit L m := by simp [dy]
theorem dy_rn (l : List Bool) (hl : l.length = 1024) : dy (rn 0 l) = l := by
  apply List.ext_getElem (by rw [dy_len, hl])
  intro m h1 h2
  rw [dy_get, rn_hit]
  simp [List.getD_eq_getElem?_getD, h2]

/-- an end that lies in the calendar -/
def cl (e : Int) : Int := min (max e 0) 1024
def one (p : Sp) (i : Nat) : Int := if cl p.1 < cl p.2 then (if cl p.1 = i then 1 else 0) - (if cl p.2 = i then 1 else 0) else 0
def ch : List Sp → Nat → Int
  | [], _ => 0
  | p :: L, i => one p i + ch L i
theorem ch_snoc (p : Sp) (i : Nat) : ∀ L : List Sp, ch (L ++ [p]) i = ch L i + one p i
  | [] => by simp [ch]
  | q :: L => by simp only [List.cons_append, ch, ch_snoc p i L]; omega
theorem one_bd (p : Sp) (i : Nat) : -1 ≤ one p i ∧ one p i ≤ 1 := by
  unfold one
  split
  · split <;> split <;> omega
  · omega
theorem ch_bd (i : Nat) : ∀ L : List Sp, -(L.length : Int) ≤ ch L i ∧ ch L i ≤ L.length
  | [] => by simp [ch]
  | p :: L => by
    have := ch_bd i L
    have := one_bd p i
    simp only [ch, List.length_cons]
    omega
/-- how many spans have the day before n -/
def ar : List Sp → Nat → Int
  | [], _ => 0
  | p :: L, n => (if cl p.1 < n ∧ (n : Int) ≤ cl p.2 then 1 else 0) + ar L n
theorem ar_bd (n : Nat) : ∀ L : List Sp, 0 ≤ ar L n ∧ ar L n ≤ L.length
  | [] => by simp [ar]
  | p :: L => by
    have := ar_bd n L
    simp only [ar, List.length_cons]
    split <;> omega
theorem ar_zero : ∀ L : List Sp, ar L 0 = 0
  | [] => rfl
  | p :: L => by
    rw [ar, ar_zero L, if_neg]
    · rfl
    · unfold cl; omega
theorem ar_succ (n : Nat) : ∀ L : List Sp, ar L (n + 1) = ar L n + ch L n
  | [] => by simp [ar, ch]
  | p :: L => by
    rw [ar, ar, ch, ar_succ n L]
    have : (if cl p.1 < ((n + 1 : Nat) : Int) ∧ (((n + 1 : Nat) : Nat) : Int) ≤ cl p.2 then (1 : Int) else 0) = (if cl p.1 < (n : Int) ∧ (n : Int) ≤ cl p.2 then 1 else 0) + one p n := by
      unfold one
      generalize cl p.1 = x
      generalize cl p.2 = y
      split <;> split <;> (try split) <;> (try split) <;> (try split) <;> omega
    omega
theorem ar_hit (n : Nat) (hn : n < 1024) : ∀ L : List Sp, decide (0 < ar L (n + 1)) = hit L n
  | [] => by simp [ar, hit]
  | p :: L => by
    have ih := ar_hit n hn L
    have hb := ar_bd (n + 1) L
    rw [hit_cons, ← ih, ar, Bool.eq_iff_iff]
    have e : (cl p.1 < ((n + 1 : Nat) : Int) ∧ ((n + 1 : Nat) : Int) ≤ cl p.2) ↔ (p.1 ≤ (n : Int) ∧ (n : Int) < p.2) := by unfold cl; omega
    simp
    by_cases h : p.1 ≤ (n : Int) ∧ (n : Int) < p.2
    · rw [if_pos (by simpa using e.2 h)]
      constructor
      · intro _; exact .inl h
      · intro _; omega
    · rw [if_neg (fun hh => h (e.1 (by simpa using hh)))]
      constructor
      · intro hh; exact .inr (by omega)
      · rintro (hh | hh)
        · exact absurd hh h
        · omega
end Go.Proofs.Ytofjbplojhlnoaa
