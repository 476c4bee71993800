/- Several texts joined: parts NG NH. -/
import Derived.Test.YteicbdjennjcdaaDoorW09
import Derived.Test.YteicbdjennjcdaaDoorW07
import Derived.Test.YteicbdjennjcdaaDoorW25
import Derived.Laws.BytesString
import Derived.Laws.IdiomStrings
import Derived.Great.BuildSlice
namespace Go.Proofs.YteicbdjennjcdaaDoor
section
set_option maxRecDepth 100000
open Go.RowKit

abbrev Step := ByteArray × List UInt8
def Clash (a b : Step) : Prop := a.1 ≠ ByteArray.empty ∧ a.1 = b.1 ∧ a.2 ≠ b.2 ∧ tagd a.1.data.toList a.2 = tagd b.1.data.toList b.2
def Coll (l m : List Step) : Prop := ∃ (i : Nat) (a b : Step), l[i]? = some a ∧ m[i]? = some b ∧ Clash a b
theorem Coll.left {A B : List Step} (h : Coll A B) (C D : List Step) : Coll (A ++ C) (B ++ D) := by
  obtain ⟨i, a, b, h1, h2, h3⟩ := h
  exact ⟨i, a, b, by rw [List.getElem?_append_left (List.getElem?_eq_some_iff.1 h1).1]; exact h1, by rw [List.getElem?_append_left (List.getElem?_eq_some_iff.1 h2).1]; exact h2, h3⟩
theorem Coll.right {A B C D : List Step} (h : Coll C D) (hl : A.length = B.length) : Coll (A ++ C) (B ++ D) := by
  obtain ⟨i, a, b, h1, h2, h3⟩ := h
  refine ⟨A.length + i, a, b, ?_, ?_, h3⟩
  · rw [List.getElem?_append_right (by omega), Nat.add_sub_cancel_left]; exact h1
  · rw [hl, List.getElem?_append_right (by omega), Nat.add_sub_cancel_left]; exact h2
theorem Coll.one {a b : Step} (h : Clash a b) : Coll [a] [b] := ⟨0, a, b, rfl, rfl, h⟩

def climbS : Nat → List UInt8 → Nat → Nat → List (List UInt8) → List Step
  | 0, d, _, _, _ => [(leafT, d)]
  | f + 1, d, i, n, P => if n ≤ 1 then [(leafT, d)] else if i < hf n then climbS f d i (hf n) P.dropLast ++ [(nodeT, clm f d i (hf n) P.dropLast ++ P.getLastD [])]
    else climbS f d (i - hf n) (n - hf n) P.dropLast ++ [(nodeT, P.getLastD [] ++ clm f d (i - hf n) (n - hf n) P.dropLast)]
theorem climbS_len (f : Nat) : ∀ (d d' : List UInt8) (i n : Nat) (P P' : List (List UInt8)), (climbS f d i n P).length = (climbS f d' i n P').length := by
  induction f with
  | zero => intros; rfl
  | succ f ih =>
    intro d d' i n P P'
    rw [climbS, climbS]
    by_cases h1 : n ≤ 1
    · rw [if_pos h1, if_pos h1]; rfl
    · rw [if_neg h1, if_neg h1]
      by_cases h2 : i < hf n
      · rw [if_pos h2, if_pos h2, List.length_append, List.length_append, ih d d']; rfl
      · rw [if_neg h2, if_neg h2, List.length_append, List.length_append, ih d d']; rfl
theorem leafT_ne : leafT ≠ ByteArray.empty := by decide
theorem nodeT_ne : nodeT ≠ ByteArray.empty := by decide
theorem stepT_ne : stepT ≠ ByteArray.empty := by decide
theorem publicT_ne : publicT ≠ ByteArray.empty := by decide
theorem same_of_no {t : ByteArray} (ht : t ≠ ByteArray.empty) {x y : List UInt8} (h : ¬ Clash (t, x) (t, y)) (he : tagd t.data.toList x = tagd t.data.toList y) : x = y := by
  by_cases hxy : x = y
  · exact hxy
  · exact absurd ⟨ht, rfl, hxy, he⟩ h
theorem getLastD_len {P : List (List UInt8)} (hP : ∀ d ∈ P, d.length = 32) (h : 0 < P.length) : (P.getLastD []).length = 32 := by
  obtain ⟨x, hx⟩ : ∃ x, P.getLast? = some x := by
    cases h' : P.getLast? with
    | none => rw [List.getLast?_eq_none_iff] at h'; subst h'; simp at h
    | some x => exact ⟨x, rfl⟩
  rw [List.getLastD_eq_getLast?, hx]
  exact hP x (List.mem_of_getLast? hx)
/-- the same digest from unlike elements: somewhere two inputs have one hash -/
theorem climb_back (f : Nat) : ∀ (d d' : List UInt8) (i n : Nat) (P P' : List (List UInt8)), P.length = stp f i n → P'.length = stp f i n → (∀ x ∈ P, x.length = 32) → (∀ x ∈ P', x.length = 32) →
    clm f d i n P = clm f d' i n P' → ¬ Coll (climbS f d i n P) (climbS f d' i n P') → d = d' := by
  induction f with
  | zero =>
    intro d d' i n P P' _ _ _ _ h hn
    exact same_of_no leafT_ne (fun hc => hn (Coll.one hc)) h
  | succ f ih =>
    intro d d' i n P P' hp hp' h32 h32' h hn
    rw [climbS, climbS] at hn
    rw [clm, clm] at h
    rw [stp] at hp hp'
    by_cases h1 : n ≤ 1
    · rw [if_pos h1, if_pos h1] at h hn
      exact same_of_no leafT_ne (fun hc => hn (Coll.one hc)) h
    · rw [if_neg h1] at hp hp'
      rw [if_neg h1, if_neg h1] at h hn
      by_cases h2 : i < hf n
      · rw [if_pos h2] at hp hp'
        rw [if_pos h2, if_pos h2] at h hn
        have e := same_of_no nodeT_ne (fun hc => hn ((Coll.one hc).right (climbS_len f _ _ _ _ _ _))) h
        obtain ⟨e1, _⟩ := List.append_inj e (by rw [clm_len, clm_len])
        exact ih d d' i (hf n) _ _ (by rw [List.length_dropLast]; omega) (by rw [List.length_dropLast]; omega) (fun x hx => h32 x (List.dropLast_subset _ hx)) (fun x hx => h32' x (List.dropLast_subset _ hx)) e1 (fun hc => hn (hc.left _ _))
      · rw [if_neg h2] at hp hp'
        rw [if_neg h2, if_neg h2] at h hn
        have e := same_of_no nodeT_ne (fun hc => hn ((Coll.one hc).right (climbS_len f _ _ _ _ _ _))) h
        obtain ⟨_, e1⟩ := List.append_inj e (by rw [getLastD_len h32 (by omega), getLastD_len h32' (by omega)])
        exact ih d d' (i - hf n) (n - hf n) _ _ (by rw [List.length_dropLast]; omega) (by rw [List.length_dropLast]; omega) (fun x hx => h32 x (List.dropLast_subset _ hx)) (fun x hx => h32' x (List.dropLast_subset _ hx)) e1 (fun hc => hn (hc.left _ _))

/-- one chain, from an element after fr steps -/
def chainS (x : List UInt8) (fr k : Nat) : List Step := (List.range k).map fun j => if j < fr then (ByteArray.empty, []) else (stepT, sn (j - fr) x)
def chainsS (C : List (List UInt8)) (D : List Nat) (k : Nat) : List Step := (List.range k).flatMap fun j => chainS (C.getD j []) (D.getD j 0) 3
theorem chainS_len (x : List UInt8) (fr k : Nat) : (chainS x fr k).length = k := by simp [chainS]
theorem chainS_succ (x : List UInt8) (fr k : Nat) : chainS x fr (k + 1) = chainS x fr k ++ [if k < fr then (ByteArray.empty, []) else (stepT, sn (k - fr) x)] := by simp [chainS, List.range_succ]
theorem chainsS_succ (C : List (List UInt8)) (D : List Nat) (k : Nat) : chainsS C D (k + 1) = chainsS C D k ++ chainS (C.getD k []) (D.getD k 0) 3 := by simp [chainsS, List.range_succ]
theorem chainsS_len (C : List (List UInt8)) (D : List Nat) (k : Nat) : (chainsS C D k).length = 3 * k := by
  induction k with
  | zero => rfl
  | succ k ih => rw [chainsS_succ, List.length_append, ih, chainS_len]; omega
theorem chain_back (x y : List UInt8) (fr : Nat) (h : ¬ Coll (chainS x fr 3) (chainS y fr 3)) : ∀ t, t ≤ 3 - fr → sn t x = sn t y → x = y
  | 0, _, e => e
  | t + 1, ht, e => by
    refine chain_back x y fr h t (by omega) ?_
    refine same_of_no stepT_ne (fun hc => h ⟨fr + t, (stepT, sn t x), (stepT, sn t y), ?_, ?_, hc⟩) e
    · rw [chainS, List.getElem?_map, List.getElem?_range (by omega)]
      simp
      intro h'
      omega
    · rw [chainS, List.getElem?_map, List.getElem?_range (by omega)]
      simp
      intro h'
      omega
theorem flat_inj : ∀ (A B : List (List UInt8)), A.length = B.length → (∀ x ∈ A, x.length = 32) → (∀ x ∈ B, x.length = 32) → A.flatten = B.flatten → A = B
  | [], [], _, _, _, _ => rfl
  | a :: A, b :: B, hl, h1, h2, h => by
    rw [List.flatten_cons, List.flatten_cons] at h
    obtain ⟨e1, e2⟩ := List.append_inj h (by rw [h1 a (List.mem_cons_self ..), h2 b (List.mem_cons_self ..)])
    rw [e1, flat_inj A B (by simpa using hl) (fun x hx => h1 x (List.mem_cons_of_mem _ hx)) (fun x hx => h2 x (List.mem_cons_of_mem _ hx)) e2]
def endsS (C : List (List UInt8)) (D : List Nat) (k : Nat) : List (List UInt8) := rc C (lft D) k
def wayS (f : Nat) (C : List (List UInt8)) (D : List Nat) (i n : Nat) (P : List (List UInt8)) : List Step := chainsS C D 19 ++ [(publicT, (endsS C D 19).flatten)] ++ climbS f (pubk (endsS C D 19)) i n P
theorem chains_coll (C O : List (List UInt8)) (D : List Nat) : ∀ (k j : Nat), j < k → Coll (chainS (C.getD j []) (D.getD j 0) 3) (chainS (O.getD j []) (D.getD j 0) 3) → Coll (chainsS C D k) (chainsS O D k)
  | 0, _, h, _ => by omega
  | k + 1, j, h, hc => by
    rw [chainsS_succ, chainsS_succ]
    by_cases e : j = k
    · subst e
      exact hc.right (by rw [chainsS_len, chainsS_len])
    · exact (chains_coll C O D k j (by omega) hc).left _ _
theorem way_coll (f : Nat) (C O : List (List UInt8)) (D : List Nat) (i n : Nat) (P P' : List (List UInt8)) (hC : C.length = 19) (hO : O.length = 19) (hD : D.length = 19) (hC32 : ∀ x ∈ C, x.length = 32) (hO32 : ∀ x ∈ O, x.length = 32)
    (hp : P.length = stp f i n) (hp' : P'.length = stp f i n) (h32 : ∀ x ∈ P, x.length = 32) (h32' : ∀ x ∈ P', x.length = 32)
    (h : clm f (pubk (endsS C D 19)) i n P = clm f (pubk (endsS O D 19)) i n P') (j : Nat) (hj : j < 19) (hne : C.getD j [] ≠ O.getD j []) : Coll (wayS f C D i n P) (wayS f O D i n P') := by
  by_cases hn : Coll (wayS f C D i n P) (wayS f O D i n P')
  · exact hn
  exfalso
  have hl1 : (chainsS C D 19).length = (chainsS O D 19).length := by rw [chainsS_len, chainsS_len]
  have e1 := climb_back f _ _ i n P P' hp hp' h32 h32' h (fun hc => hn (hc.right (by rw [List.length_append, List.length_append, hl1]; rfl)))
  have e2 : (endsS C D 19).flatten = (endsS O D 19).flatten := same_of_no publicT_ne (fun hc => hn (((Coll.one hc).right hl1).left _ _)) e1
  have e3 := flat_inj _ _ (by simp only [rc_len]) (rc_dig C (lft D) hC32 19 (by omega)) (rc_dig O (lft D) hO32 19 (by omega)) e2
  have e4 : (rc C (lft D) 19)[j]? = (rc O (lft D) 19)[j]? := congrArg (fun L => L[j]?) e3
  simp only [rc] at e4
  rw [List.getElem?_map, List.getElem?_map, List.getElem?_range hj] at e4
  injection e4 with e4
  have e4 : sn ((lft D).getD j 0) (C.getD j []) = sn ((lft D).getD j 0) (O.getD j []) := e4
  obtain ⟨d, hd⟩ : ∃ d, D[j]? = some d := ⟨_, List.getElem?_eq_getElem (by omega)⟩
  have e5 : (lft D).getD j 0 = 3 - D.getD j 0 := by
    rw [List.getD_eq_getElem?_getD, List.getD_eq_getElem?_getD, lft, List.getElem?_map, hd]
    rfl
  rw [e5] at e4
  exact hne (chain_back _ _ _ (fun hc => hn (((chains_coll C O D 19 j hj hc).left _ _).left _ _)) _ (Nat.le_refl _) e4)
end
section
set_option maxRecDepth 100000
open Go.RowKit

/-- a step's cells -/
def stC (a : Step) : List Value := [.string a.1, .string ⟨a.2.toArray⟩]
theorem stC_len (a : Step) : (stC a).length = 2 := rfl
theorem stC_one (a : Step) : ∀ u ∈ stC a, u.oneCell' = true := by
  intro u hu
  simp only [stC, List.mem_cons, List.not_mem_nil, or_false] at hu
  rcases hu with rfl | rfl <;> rfl
theorem info_st : (Tryd.prog.info? 78).map (fun i => (i.zero, i.size, i.bytes)) = some (some (.agg #[.string .empty, .string .empty]), 2, 32) := by kernel_rfl
/-- an own list of steps -/
def OwnS (w : World) (base : Nat) (v : Value) (L : List Step) : Prop := w.ownsRow base 78 2 v L.length (L.flatMap stC)
theorem OwnS.nil (w : World) (b : Nat) : OwnS w b (.slice none 0 0) [] := World.ownsRow_nil _ _ _ _
theorem OwnS.step {w w' : World} {b : Nat} {v : Value} {L : List Step} (h : OwnS w b v L) (hb : Below w.heap.size w w') : OwnS w' b v L := owns_below h hb
theorem OwnS.kept {w w' : World} {b : Nat} {v : Value} {L : List Step} (h : OwnS w b v L) (hk : ∀ g, v.ownBlock = some g → w'.heap[g]? = w.heap[g]?) : OwnS w' b v L := by
  refine ⟨h.1, ?_⟩
  rcases h.2 with h | ⟨g, cap, cur, e, hg, hh, r⟩
  · exact .inl h
  · exact .inr ⟨g, cap, cur, e, hg, by rw [hk g (by rw [e]; rfl)]; exact hh, r⟩
theorem OwnS.low {w : World} {b b' : Nat} {v : Value} {L : List Step} (h : OwnS w b v L) (hb : b' ≤ b) : OwnS w b' v L := by
  refine ⟨h.1, ?_⟩
  rcases h.2 with h | ⟨g, cap, cur, e, hg, hh, r⟩
  · exact .inl h
  · exact .inr ⟨g, cap, cur, e, by omega, hh, r⟩
theorem OwnS.slice {w : World} {b : Nat} {v : Value} {L : List Step} (h : OwnS w b v L) : ∃ A cap, v = .slice A L.length cap := by
  rcases h.2 with ⟨rfl, h0⟩ | ⟨g, cap, cur, rfl, _⟩
  · exact ⟨none, 0, by rw [h0]⟩
  · exact ⟨_, _, rfl⟩
theorem OwnS.lt {w : World} {b : Nat} {v : Value} {L : List Step} (h : OwnS w b v L) : ∀ g, v.ownBlock = some g → b ≤ g ∧ g < w.heap.size := fun g hg => World.ownsRow.lt h g hg
theorem below_ownS {B b : Nat} {a w w' : World} {v : Value} {L : List Step} (h : Below B a w) (hg : w.grownBy w' v.ownBlock) (ho : OwnS w b v L) (hb : B ≤ b) (hs : B ≤ w.heap.size) : Below B a w' :=
  h.grown hg hs fun k hk => by have := (World.ownsRow.lt ho k hk).1; omega
theorem flatS_len (L : List Step) : (L.flatMap stC).length = L.length * 2 := by
  induction L with
  | nil => rfl
  | cons a L ih => rw [List.flatMap_cons, List.length_append, ih, stC_len, List.length_cons]; omega
theorem flatS_at : ∀ (L : List Step) (i : Nat) (a : Step), L[i]? = some a → (L.flatMap stC)[2 * i]? = some (.string a.1) ∧ (L.flatMap stC)[2 * i + 1]? = some (.string ⟨a.2.toArray⟩)
  | [], i, a, h => by simp at h
  | b :: L, 0, a, h => by
    simp at h
    subst h
    exact ⟨rfl, rfl⟩
  | b :: L, i + 1, a, h => by
    have ih := flatS_at L i a (by simpa using h)
    rw [List.flatMap_cons]
    exact ⟨by rw [List.getElem?_append_right (by rw [stC_len]; omega), stC_len, show 2 * (i + 1) - 2 = 2 * i by omega]; exact ih.1, by rw [List.getElem?_append_right (by rw [stC_len]; omega), stC_len, show 2 * (i + 1) + 1 - 2 = 2 * i + 1 by omega]; exact ih.2⟩
/-- a list of steps that can be read -/
def StL (w : World) (S : Nat → Prop) (L : List Step) (A : Option Addr) (cap : Nat) : Prop :=
  L.length ≤ cap ∧ cap ≤ maxLen ∧ (0 < L.length → ∃ b, A = some ⟨b, 0, none⟩ ∧ S b ∧ ∀ i a, L[i]? = some a → w.cell? ⟨b, 2 * i, none⟩ = some (.string a.1) ∧ w.cell? ⟨b, 2 * i + 1, none⟩ = some (.string ⟨a.2.toArray⟩))
theorem StL.keep {w w' : World} {S S' : Nat → Prop} {L : List Step} {A : Option Addr} {cap : Nat} (h : StL w S L A cap) (hs : ∀ i, S i → S' i ∧ w'.heap[i]? = w.heap[i]?) : StL w' S' L A cap := by
  refine ⟨h.1, h.2.1, fun hp => ?_⟩
  obtain ⟨b, e, hS, hc⟩ := h.2.2 hp
  exact ⟨b, e, (hs b hS).1, fun i a ha => ⟨(World.cell?_of_block (hs b hS).2).trans (hc i a ha).1, (World.cell?_of_block (hs b hS).2).trans (hc i a ha).2⟩⟩
theorem OwnS.stl {w : World} {b : Nat} {v : Value} {L : List Step} (h : OwnS w b v L) : ∃ A cap, v = .slice A L.length cap ∧ StL w (· < w.heap.size) L A cap := by
  have hcs : ∀ g, v.ownBlock = some g → ∀ j u, (L.flatMap stC)[j]? = some u → w.cell? ((⟨g, 0, none⟩ : Addr).add j) = some u := fun g hg => World.ownsRow.cells h hg
  rcases h.2 with ⟨rfl, h0⟩ | ⟨g, cap, cur, rfl, hb, hh, h1, h2, _⟩
  · exact ⟨none, 0, by rw [h0], by omega, Nat.zero_le _, fun hp => by omega⟩
  · refine ⟨some ⟨g, 0, none⟩, cap, rfl, h1, h2, fun _ => ⟨g, rfl, (Array.getElem?_eq_some_iff.1 hh).1, fun i a ha => ?_⟩⟩
    obtain ⟨e1, e2⟩ := flatS_at L i a ha
    have c1 := hcs g rfl _ _ e1
    have c2 := hcs g rfl _ _ e2
    rw [Go.WideShapes.add_plain, Nat.zero_add] at c1 c2
    exact ⟨c1, c2⟩
theorem run_bsS (a : Step) (w : World) : (Instr.buildSlice 46 1 #[(0, .agg #[.string a.1, .string ⟨a.2.toArray⟩])]).run Tryd.prog w = .ok (.slice (some ⟨w.heap.size, 0, none⟩) 1 1) (w.alloc (.cells (stC a).toArray 78)) := by
  obtain ⟨i, hi, hz0, hz1, hz2⟩ := info_parts info_st
  refine run_buildSlice w 46 78 1 _ _ i _ Tryd.underlying46 hi hz0 (by rw [hz1]; omega) (by rw [hz1]; omega) ?_
  rw [hz1]
  first | kernel_rfl | (simp [Instr.fill, Value.cells, stC]; try rfl)
theorem ev_buildS {o : Oper} {a : Act} {w : World} (t : ByteArray) (y : Operand) (s : ByteArray) (ho : o.op = .build 78 #[(0, .const (.string t)), (1, y)]) (hy : a.eval y = .string s) :
    (execOp a.eval o).run Tryd.prog w = .ok (.value (.agg #[.string t, .string s])) w := by
  have hb : (Instr.build 78 #[(0, .string t), (1, .string s)]).run Tryd.prog w = .ok (.agg #[.string t, .string s]) w := run_build w 78 _ _ (by kernel_rfl)
  have hc : a.eval (.const (.string t)) = .string t := rfl
  simp [execOp, ho, hc, hy, hb, Result.andThen]
theorem ev_buildS0 {o : Oper} {a : Act} {w : World} (ho : o.op = .build 78 #[]) :
    (execOp a.eval o).run Tryd.prog w = .ok (.value (.agg #[.string .empty, .string .empty])) w := by
  have hb : (Instr.build 78 #[]).run Tryd.prog w = .ok (.agg #[.string .empty, .string .empty]) w := run_build w 78 _ _ (by kernel_rfl)
  simp [execOp, ho, hb, Result.andThen]
theorem ev_str {o : Oper} {a : Act} {w : World} (x : Operand) (S : Nat → Prop) (A : Option Addr) (cap : Nat) (l : List UInt8) (hl : 0 < l.length) (ho : o.op = .convert 62 9 x) (hx : a.eval x = .slice A l.length cap) (h : Byt w S l A cap) :
    (execOp a.eval o).run Tryd.prog w = .ok (.value (.string ⟨l.toArray⟩)) w := by
  obtain ⟨b, ofs, rfl, _, hc⟩ := h.2.2.2 hl
  have hrun := run_convert_bytes_back (P := Tryd.prog) w 62 9 5 ⟨b, ofs, none⟩ cap l Tryd.underlying62 Tryd.underlying5 Tryd.underlying9 (fun j hj => by
    rw [Go.WideShapes.add_plain]
    exact hc j _ (by rw [U_get, List.getElem?_eq_getElem hj]; rfl))
  simp [execOp, ho, hx, hrun, Result.andThen]
theorem wp_appS {o : Oper} {a : Act} {K : Act → World → Prop} {Q : Exit → Act → World → Prop} {w : World} (s x : Operand)
    (ho : o.op = .call { callee := .builtin .append, args := #[s, x], argTypes := #[46, 46] })
    (base g : Nat) (v : Value) (L : List Step) (e : Step) (hs : a.eval s = v) (hx : a.eval x = .slice (some ⟨g, 0, none⟩) 1 1) (hown : OwnS w base v L) (hsrc : w.heap[g]? = some (.cells (stC e).toArray 78 (0, 0)))
    (hlen : L.length + 1 ≤ 1000000) (hbase : base ≤ w.heap.size)
    (h : ∀ v' w', OwnS w' base v' (L ++ [e]) → w.grownBy w' v.ownBlock → (v'.ownBlock = v.ownBlock ∨ v'.ownBlock = some w.heap.size) → K (a.put o.dst v') w') : o.wp Tryd.prog a w K Q := by
  obtain ⟨i, hi, hz0, hz1, hz2⟩ := info_parts info_st
  obtain ⟨v', w', hrun, h1, h2, _, h4⟩ := run_append_own_at (P := Tryd.prog) (w := w) base 46 o.type 78 i (.agg #[.string .empty, .string .empty]) 2 32 Tryd.underlying46 hi hz0 hz1 hz2 rfl (by omega) v L.length (L.flatMap stC) hown
    ⟨g, 0, none⟩ 1 1 (stC e) rfl (fun j u hu => by
      rw [Go.WideShapes.add_plain, Nat.zero_add, cell_of_row w g j _ _ _ hsrc]
      simpa using hu) (stC_one e) (by simp only [maxLen]; omega) (by omega) hbase
  have h1' : OwnS w' base v' (L ++ [e]) := by
    unfold OwnS
    rw [List.length_append, List.flatMap_append]
    simpa using h1
  have := h v' w' h1' h2 h4
  unfold Oper.wp
  simp [execOp, ho, resolve, invoke, builtin, hs, hx, hrun, Result.andThen]
  exact this
theorem app_S {ops : Array Oper} {rest : List Oper} {o : Oper} {a : Act} {Q : Exit → Act → World → Prop} {w : World} (hgd : o.guard = none) (s x : Operand)
    (ho : o.op = .call { callee := .builtin .append, args := #[s, x], argTypes := #[46, 46] })
    (base g : Nat) (v : Value) (L : List Step) (e : Step) (hs : a.eval s = v) (hx : a.eval x = .slice (some ⟨g, 0, none⟩) 1 1) (hown : OwnS w base v L) (hsrc : w.heap[g]? = some (.cells (stC e).toArray 78 (0, 0)))
    (hlen : L.length + 1 ≤ 1000000) (hbase : base ≤ w.heap.size)
    (h : ∀ v' w', OwnS w' base v' (L ++ [e]) → w.grownBy w' v.ownBlock → (v'.ownBlock = v.ownBlock ∨ v'.ownBlock = some w.heap.size) → wpList Tryd.prog ops Q rest (a.put o.dst v') w') : wpList Tryd.prog ops Q (o :: rest) a w :=
  wpList_plain hgd fun _ hK => wp_appS s x ho base g v L e hs hx hown hsrc hlen hbase fun v' w' h1 h2 h3 => hK _ _ (h v' w' h1 h2 h3)
theorem bs_S {ops : Array Oper} {rest : List Oper} {o : Oper} {a : Act} {Q : Exit → Act → World → Prop} {w : World} (hgd : o.guard = none) (x : Operand) (ho : o.op = .buildSlice 46 1 #[(0, x)])
    (e : Step) (hx : a.eval x = .agg #[.string e.1, .string ⟨e.2.toArray⟩])
    (h : wpList Tryd.prog ops Q rest (a.put o.dst (.slice (some ⟨w.heap.size, 0, none⟩) 1 1)) (w.alloc (.cells (stC e).toArray 78))) : wpList Tryd.prog ops Q (o :: rest) a w := by
  refine wpList_plain hgd fun K hK => ?_
  have hrun := run_bsS e w
  unfold Oper.wp
  simp [execOp, ho, hx, hrun, Result.andThen]
  exact hK _ _ h

set_option maxHeartbeats 800000 in
theorem lhalf_all (n : Nat) (w : World) (h1 : 2 ≤ n) (h2 : n ≤ 2199023255552) :
    Calls Tryd.prog 89 #[.int .i64 n] w fun e w' => e = .returned (.int .i64 (hf n)) ∧ w' = w := by
  obtain ⟨K, hK⟩ : ∃ K, K = hf n := ⟨_, rfl⟩
  have HPOW := Lib.hid (show ∀ t : Nat, 2 ^ t < n → n ≤ 2 * 2 ^ t → 2 ^ t = K from fun t a b => by rw [hK]; exact hf_of_pow (by omega) (by omega) a b)
  rw [← hK]
  clear hK
  go_enter Tryd.func89, Tryd.ntmps89
  go_wp2_with fail
  go_loop [3] (fun x => ∃ t : Nat, x = .int .i64 (2 ^ t : Nat) ∧ 2 ^ t < n) (fun x => n - (intOf x).toNat)
  case atStart => exact ⟨0, rfl, by omega⟩
  case round =>
    obtain ⟨t, rfl, ht⟩ := hrel
    have HP1 := Lib.hid (HPOW.out t ht)
    have HT := Lib.hid (show 2 * 2 ^ t = 2 ^ (t + 1) by rw [Nat.pow_succ]; omega)
    have hpos : 0 < 2 ^ t := Nat.pos_of_ne_zero (by simp)
    obtain ⟨x, hx⟩ : ∃ x, x = 2 ^ t := ⟨_, rfl⟩
    rw [← hx] at ht hpos HP1 HT ⊢
    clear hx
    by_cases h2x : 2 * x < n
    · clear HP1
      go_wp2_with fail
      go_round
      case rel => exact ⟨t + 1, by rw [← HT.out]; go_num, by rw [← HT.out]; omega⟩
      case measure => simp [intOf]; omega
    · have HE := Lib.hid (HP1.out (by omega))
      clear HP1
      go_wp2_with fail
      go_ret
      exact ⟨ret_int (by rw [HE.out]), rfl⟩

set_option maxHeartbeats 3200000 in
theorem element_all (x : List UInt8) (i k : Nat) (w : World) (hx : x.length = 32) (hi : i < 256) (hk : k ≤ 1000) (hkr : KR w Kt) :
    Calls Tryd.prog 24 #[.agg (U x).toArray, .int .i64 i, .int .i64 k] w fun e w' => e = .returned (.agg (U (sn k (fst5 x i))).toArray) ∧ Below w.heap.size w w' := by
  have HX := Lib.hid hx
  have HKR := Lib.hid hkr
  have hlt0 := hkr.lt
  clear hx hkr
  obtain ⟨h0, h1, hb1, hz1⟩ := box2 w (U x).toArray (U (flb 32 [])).toArray 23 23 _ rfl
  have oe := own_empty ((w.alloc (.cells (U x).toArray 23)).alloc (.cells (U (flb 32 [])).toArray 23))
  have bx := ((show RowB _ w.heap.size 23 x from h0).b32 HX.out).keep (w' := ((w.alloc (.cells (U x).toArray 23)).alloc (.cells (U (flb 32 [])).toArray 23)).alloc (.cells #[] 5)) (S' := (· < w.heap.size + 2)) fun j hj => ⟨by omega, Below.heap_alloc _ _ j (by omega)⟩
  rw [hz1] at oe
  have OE := Lib.hid oe
  have BX := Lib.hid bx
  have HB2 := Lib.hid (hb1.alloc hb1.size (.cells #[] 5))
  have R1 := Lib.hid (show RowB (((w.alloc (.cells (U x).toArray 23)).alloc (.cells (U (flb 32 [])).toArray 23)).alloc (.cells #[] 5)) (w.heap.size + 1) 23 (flb 32 []) from (Below.heap_alloc _ _ _ (by omega)).trans h1)
  have HZ := Lib.hid (show (((w.alloc (.cells (U x).toArray 23)).alloc (.cells (U (flb 32 [])).toArray 23)).alloc (.cells #[] 5)).heap.size = w.heap.size + 3 by rw [World.size_alloc, hz1])
  have HZ2 := Lib.hid (Nat.le_of_eq HZ.out.symm)
  have HZ3 := Lib.hid (Nat.le_trans (show w.heap.size + 2 ≤ w.heap.size + 3 by omega) HZ2.out)
  clear h0 h1 hb1 hz1 oe bx
  have HBY := Lib.hid (fun w3 : World => byt_one w3 (UInt8.ofNat i) (i : Int) (by rw [UInt8.toNat_ofNat', Nat.mod_eq_of_lt hi]))
  go_enter Tryd.func24, Tryd.ntmps24
  go_wp2_with (first
    | (at_builtin; refine app_byt rfl (.tmp 8) (.tmp 9) rfl (w.heap.size + 2) _ _ _ _ [] x rfl (by rw [HX.out]; rfl) OE.out BX.out (by rw [HX.out]; simp) HZ3.out ?_; intro v3 w3 ho3 hg3; rw [List.nil_append] at ho3; obtain ⟨A3, c3, e3⟩ := ho3.slice; subst e3; have HB3 := Lib.hid (below_own HB2.out hg3 OE.out (by omega) (Nat.le_trans (by omega) HZ2.out)); have HR3 := Lib.hid (R1.out.grown hg3 (fun e => by have := (World.ownsRow.lt OE.out _ e).1; omega)); have hsz3 := Nat.le_trans HZ2.out hg3.size; have HO3 := Lib.hid (show Own (w3.alloc (.cells #[.int .u8 i] 5)) (w.heap.size + 2) (.slice A3 x.length c3) x from World.ownsRow.alloc ho3 _); clear ho3 hg3)
    | (at_builtin; refine app_byt rfl (.tmp 10) (.tmp 13) rfl (w.heap.size + 2) _ _ _ _ x [UInt8.ofNat i] rfl rfl HO3.out (HBY.out _) (by rw [HX.out]; simp) (by simp; omega) ?_; intro v4 w4 ho4 hg4; obtain ⟨A4, c4, e4, hy4⟩ := ho4.byt; subst e4; have HY4 := Lib.hid hy4; have HB4 := Lib.hid (below_own (HB3.out.alloc (by omega) _) hg4 HO3.out (by omega) (by simp; omega)); have HR4 := Lib.hid ((show RowB (w3.alloc (.cells #[.int .u8 i] 5)) (w.heap.size + 1) 23 (flb 32 []) from (Below.heap_alloc _ _ _ (by omega)).trans HR3.out).grown hg4 (fun e => by have := (World.ownsRow.lt HO3.out _ e).1; omega)); clear ho4 hg4 hy4))
  have C := tagged_all chainT (x ++ [UInt8.ofNat i]) A4 c4 w4 (by decide) (by rw [List.length_append, HX.out]; simp) (HY4.out.keep fun j hj => ⟨hj.2, rfl⟩) (HKR.out.keep (HB4.out.block 0 hlt0))
  rw [show (x ++ [UInt8.ofNat i]).length = x.length + 1 by simp] at C
  refine C.mono ?_
  rintro e w5 ⟨rfl, hb5⟩
  have R5 := Lib.hid (HR4.out.keep (hb5.block _ HR4.out.lt))
  have HB5 := Lib.hid (HB4.out.trans (hb5.mono HB4.out.size))
  have hsz5 : w.heap.size + 2 ≤ w5.heap.size := by have := R5.out.lt; omega
  have n5 : RowB (w5.alloc (.cells (U (flb 32 [])).toArray 23)) w5.heap.size 23 (flb 32 []) := heap_alloc_new w5 _
  have HG5 := Lib.hid (show ∀ W6, (w5.alloc (.cells (U (flb 32 [])).toArray 23)).setRow w5.heap.size (U (fst5 x i)).toArray = W6 → RowB W6 w5.heap.size 23 (sn 0 (fst5 x i)) ∧ Below w5.heap.size w5 W6 ∧ w5.heap.size + 1 = W6.heap.size from fun W6 h => by
    subst h
    exact ⟨n5.setRow _, below_setRow ((Below.refl _ _).alloc (Nat.le_refl _) _) (Nat.le_refl _) _, by simp⟩)
  have HFL := Lib.hid (fst5_len x i)
  clear hb5 C
  go_upto_region 2 with (refine store_B rfl (.tmp 7) (.tmp 15) rfl w5.heap.size (flb 32 []) (fst5 x i) rfl rfl 23 n5 HFL.out (by simp [flb]) ?_)
  generalize hW6 : (w5.alloc _).setRow _ _ = W6
  obtain ⟨r6, hb6, hz6⟩ := HG5.out W6 hW6
  have R6 := Lib.hid r6
  have R7 := Lib.hid (R5.out.keep (hb6.block _ (by omega)))
  have HB6 := Lib.hid (HB5.out.trans (hb6.mono HB5.out.size))
  clear hW6 HG5 n5 hb6 r6
  go_wp2_with fail
  go_loopw [17] (fun y wr => ∃ j : Nat, y = .int .i64 j ∧ j ≤ k ∧ Hid (RowB wr w5.heap.size 23 (sn j (fst5 x i))) ∧ Hid (RowB wr (w.heap.size + 1) 23 (flb 32 [])) ∧ Hid (Below w.heap.size w wr)) (fun y _ => k - (intOf y).toNat)
  case atStart => exact ⟨0, rfl, by omega, R6, R7, HB6⟩
  case round =>
    obtain ⟨j, rfl, hj, H0, H1, HB⟩ := hrel
    have HSN := Lib.hid (sn_len j _ HFL.out)
    have hl1 := H1.out.lt
    have hl0 := H0.out.lt
    by_cases hjk : j < k
    · have C := tagged_all stepT (sn j (fst5 x i)) (some ⟨w5.heap.size, 0, none⟩) 32 wr (by decide) (by rw [HSN.out]; omega) ((H0.out.b32 HSN.out).keep fun i hi => ⟨by subst hi; exact hl0, rfl⟩) (HKR.out.keep (HB.out.block 0 hlt0))
      rw [HSN.out] at C
      have CC := Lib.hid C
      clear C
      go_wp2_with fail
      refine CC.out.mono ?_
      rintro e w6 ⟨rfl, hb6⟩
      have r6 := H0.out.keep (hb6.block _ hl0)
      have HR7 := Lib.hid (r6.setRow (sn (j + 1) (fst5 x i)))
      have HR8 := Lib.hid (show RowB (w6.setRow w5.heap.size (U (sn (j + 1) (fst5 x i))).toArray) (w.heap.size + 1) 23 (flb 32 []) from (setRow_other _ _ _ _ (by omega)).trans (H1.out.keep (hb6.block _ hl1)))
      have HB7 := Lib.hid (below_setRow (HB.out.trans (hb6.mono HB.out.size)) (show w.heap.size ≤ w5.heap.size by omega) (U (sn (j + 1) (fst5 x i))).toArray)
      clear hb6 CC
      go_wp2_with (refine store_B rfl (.tmp 7) (.tmp 20) rfl w5.heap.size (sn j (fst5 x i)) (sn (j + 1) (fst5 x i)) rfl rfl 23 r6 (sd_len _) HSN.out ?_)
      go_roundw
      case rel => exact ⟨j + 1, rfl, by omega, HR7, HR8, HB7⟩
      case measure => simp [intOf]; omega
    · have hjk2 : j = k := by omega
      rw [hjk2] at H0 HSN ⊢
      have r0 := H0.out
      have r1 := H1.out
      have r2 := r1.setRow (sn k (fst5 x i))
      clear hjk2 hjk hj
      go_wp2_with (first
        | (refine load_B rfl (.tmp 7) rfl w5.heap.size rfl 23 (sn k (fst5 x i)) r0 HSN.out ?_)
        | (refine store_B rfl (.tmp 6) (.tmp 22) rfl (w.heap.size + 1) (flb 32 []) (sn k (fst5 x i)) rfl rfl 23 r1 HSN.out (by simp [flb]) ?_))
      exact bodyPost_ret (res_B rfl _ _ _ _ _ rfl r2 HSN.out) rfl ⟨rfl, below_setRow HB.out (by omega) _⟩
end
end Go.Proofs.YteicbdjennjcdaaDoor
