/- Chains: what is shared with the digests: boxes, lists of digests, steps. -/
import Derived.Test.YtllkkafajchioaaDoorHI
import Derived.Deep.RegionLaw
import Derived.Deep.MidRow
import Derived.DeepKeys
import Derived.Maps.AppendAt
import Derived.Great.BuildSlice
import Derived.Laws.MakeOwn
import Derived.Deep.RegionHeld3
import Derived.Shelf.Abstract
namespace Go.Proofs.YtllkkafajchioaaDoor
open Go.RowKit

/-- a result variable and boxes behind it -/
theorem box1 (w : World) (c : Array Value) (t : TypeId) (W1 : World) (h : w.alloc (.cells c t) = W1) : W1.heap[w.heap.size]? = some (.cells c t (0, 0)) ∧ Below w.heap.size w W1 ∧ W1.heap.size = w.heap.size + 1 := by
  subst h
  exact ⟨heap_alloc_new w _, (Below.refl _ _).alloc (Nat.le_refl _) _, by simp⟩
theorem box2 (w : World) (c d : Array Value) (t u : TypeId) (W1 : World) (h : (w.alloc (.cells c t)).alloc (.cells d u) = W1) :
    W1.heap[w.heap.size]? = some (.cells c t (0, 0)) ∧ W1.heap[w.heap.size + 1]? = some (.cells d u (0, 0)) ∧ Below w.heap.size w W1 ∧ W1.heap.size = w.heap.size + 2 := by
  obtain ⟨h1, h2, h3⟩ := box1 w c t _ rfl
  obtain ⟨k1, k2, k3⟩ := box1 _ d u W1 h
  rw [h3] at k1 k2 k3
  exact ⟨(k2.block _ (by omega)).trans h1, k1, h2.trans (k2.mono (by omega)), k3⟩
theorem box3 (w : World) (c d f : Array Value) (t u v : TypeId) (W1 : World) (h : ((w.alloc (.cells c t)).alloc (.cells d u)).alloc (.cells f v) = W1) :
    W1.heap[w.heap.size]? = some (.cells c t (0, 0)) ∧ W1.heap[w.heap.size + 1]? = some (.cells d u (0, 0)) ∧ W1.heap[w.heap.size + 2]? = some (.cells f v (0, 0)) ∧ Below w.heap.size w W1 ∧ W1.heap.size = w.heap.size + 3 := by
  obtain ⟨h1, h2, h3, h4⟩ := box2 w c d t u _ rfl
  obtain ⟨k1, k2, k3⟩ := box1 _ f v W1 h
  rw [h4] at k1 k2 k3
  exact ⟨(k2.block _ (by omega)).trans h1, (k2.block _ (by omega)).trans h2, k1, h3.trans (k2.mono (by omega)), k3⟩
/-- the store of a digest, as a region's walk meets it -/
theorem st_row (w : World) (g : Nat) (t : TypeId) (l l' : List UInt8) (h : RowB w g t l) (hl : l.length = 32) (hl' : l'.length = 32) :
    (storeVar 23 ⟨g, 0, none⟩ (.agg (U l').toArray)).run Tryd.prog w = .ok () (w.setRow g (U l').toArray) ∧
    (storeCells ⟨g, 0, none⟩ (U l') 0).run Tryd.prog w = .ok () (w.setRow g (U l').toArray) := by
  have h1 := run_storeVar_row (P := Tryd.prog) w g t 23 _ (U l').toArray h (by rw [sz32, U_size, hl']) (by rw [U_size, U_size, hl, hl']) (U_ones l')
  refine ⟨h1, ?_⟩
  cases hq : Tryd.prog.info? 23 with
  | none =>
    have := sz32
    rw [hq] at this
    cases this
  | some i =>
    have hs : i.size = 32 := by
      have := sz32
      rw [hq] at this
      simpa using this
    have hu : (U l').length = 32 := by rw [U_length, hl']
    simpa [storeVar, sizeOf, typeInfo, hq, Value.cells, hs, hu] using h1
theorem max32 : 32 ≤ maxLen := by simp only [maxLen]; omega
/-- a slice of digests that reads as L -/
def DL (w : World) (S : Nat → Prop) (L : List (List UInt8)) (A : Option Addr) (cap : Nat) : Prop :=
  L.length ≤ cap ∧ cap ≤ maxLen ∧ (A = none → cap = 0) ∧ (∀ d ∈ L, d.length = 32) ∧ (0 < L.length → ∃ b o, A = some ⟨b, o, none⟩ ∧ S b ∧ ∀ i d, L[i]? = some d → w.rangeAt b (o + i * 32) (U d))
theorem DL.keep {w w' : World} {S S' : Nat → Prop} {L : List (List UInt8)} {A : Option Addr} {cap : Nat} (h : DL w S L A cap) (hs : ∀ i, S i → S' i ∧ w'.heap[i]? = w.heap[i]?) : DL w' S' L A cap := by
  refine ⟨h.1, h.2.1, h.2.2.1, h.2.2.2.1, fun hp => ?_⟩
  obtain ⟨b, o, e, hS, hc⟩ := h.2.2.2.2 hp
  exact ⟨b, o, e, (hs b hS).1, fun i d hd j u hu => (World.cell?_of_block (hs b hS).2).trans (hc i d hd j u hu)⟩
theorem DL.take {w : World} {S : Nat → Prop} {L : List (List UInt8)} {A : Option Addr} {cap : Nat} (h : DL w S L A cap) (n : Nat) : DL w S (L.take n) A cap := by
  refine ⟨by rw [List.length_take]; have := h.1; omega, h.2.1, h.2.2.1, fun d hd => h.2.2.2.1 d (List.mem_of_mem_take hd), fun hp => ?_⟩
  rw [List.length_take] at hp
  obtain ⟨b, o, e, hS, hc⟩ := h.2.2.2.2 (by omega)
  refine ⟨b, o, e, hS, fun i d hd => hc i d ?_⟩
  rw [List.getElem?_take] at hd
  split at hd
  · exact hd
  · cases hd
theorem DL.drop {w : World} {S : Nat → Prop} {L : List (List UInt8)} {b o cap : Nat} (h : DL w S L (some ⟨b, o, none⟩) cap) (n : Nat) : DL w S (L.drop n) (some ⟨b, o + n * 32, none⟩) (cap - n) := by
  refine ⟨by rw [List.length_drop]; have := h.1; omega, by have := h.2.1; omega, (fun e => by cases e), fun d hd => h.2.2.2.1 d (List.mem_of_mem_drop hd), fun hp => ?_⟩
  rw [List.length_drop] at hp
  obtain ⟨b', o', e, hS, hc⟩ := h.2.2.2.2 (by omega)
  injection e with e
  injection e with e1 e2
  subst e1 e2
  refine ⟨b, o + n * 32, rfl, hS, fun i d hd => ?_⟩
  rw [List.getElem?_drop] at hd
  have := hc _ _ hd
  rwa [show o + n * 32 + i * 32 = o + (n + i) * 32 by rw [Nat.add_mul]; omega]
theorem load_D {ops : Array Oper} {rest : List Oper} {o : Oper} {a : Act} {w : World} {Q : Exit → Act → World → Prop} (hgd : o.guard = none) (x : Operand) (ho : o.op = .load 23 x)
    (b ofs : Nat) (d : List UInt8) (hx : a.eval x = .pointer (some ⟨b, ofs, none⟩)) (h : w.rangeAt b ofs (U d)) (hd : d.length = 32)
    (hK : wpList Tryd.prog ops Q rest (a.put o.dst (.agg (U d).toArray)) w) : wpList Tryd.prog ops Q (o :: rest) a w :=
  wpList_load_mid hgd 23 x ho b ofs hx (U d) _ h Tryd.underlying23 rfl (by rw [sz32, U_length, hd]) hK
theorem byt_nil (w : World) (S : Nat → Prop) : Byt w S [] none 0 := ⟨Nat.le_refl _, Nat.zero_le _, fun _ => rfl, fun h => absurd h (by simp)⟩
theorem part_u8 (l : List UInt8) (i : Nat) (h : i < l.length) (w : World) : (part 5 (U l).toArray i).run Tryd.prog w = .ok (.int .u8 (by_ l i).toNat) w := by
  have hg : (U l)[i]? = some (.int .u8 (by_ l i).toNat) := by
    rw [U_get, List.getElem?_eq_getElem h, by_, List.getD_eq_getElem?_getD, List.getElem?_eq_getElem h]
    rfl
  have hagg : (isAgg 5).run Tryd.prog w = .ok false w := Tryd.isAgg5 w
  simp [part, hagg, hg]
theorem items_u8 (d : Nat) (l m : List UInt8) (w : World) (hl : l.length = 32) (hm : m.length = 32) : ∀ is : List Nat, (∀ i ∈ is, i < 32) →
    (Op.eqItems (d + 1) 5 1 (U l).toArray (U m).toArray is).run Tryd.prog w = .ok (is.all fun i => by_ l i == by_ m i) w
  | [], _ => by simp [Op.eqItems]
  | i :: is, h => by
    have hi := h i (List.mem_cons_self ..)
    have ih := items_u8 d l m w hl hm is (fun j hj => h j (List.mem_cons_of_mem _ hj))
    have e1 := part_u8 l i (by omega) w
    have e2 := part_u8 m i (by omega) w
    have e3 := run_equalIn_int (P := Tryd.prog) (w := w) d 5 .u8 .u8 (by_ l i).toNat (by_ m i).toNat Tryd.underlying5
    simp only [Op.eqItems, Nat.mul_one, Sem.run_bind, e1, e2, e3, Result.andThen_ok, List.all_cons]
    by_cases hb : by_ l i = by_ m i
    · simp [hb, ih]
    · have : ¬ ((by_ l i).toNat : Int) = (by_ m i).toNat := fun e => hb (UInt8.toNat_inj.1 (by omega))
      simp [hb, this]
theorem all_by (l m : List UInt8) (hl : l.length = 32) (hm : m.length = 32) : ((List.range 32).all fun i => by_ l i == by_ m i) = decide (l = m) := by
  by_cases h : l = m
  · subst h; simp
  · rw [decide_eq_false h]
    by_cases hx : ((List.range 32).all fun i => by_ l i == by_ m i) = true
    · exfalso
      apply h
      apply List.ext_getElem (by omega)
      intro i h1 h2
      have := List.all_eq_true.1 hx i (List.mem_range.2 (by omega))
      have e : by_ l i = by_ m i := by simpa using this
      rw [by_, by_, List.getD_eq_getElem?_getD, List.getD_eq_getElem?_getD, List.getElem?_eq_getElem h1, List.getElem?_eq_getElem h2] at e
      simpa using e
    · simpa using hx
theorem eq_dig (l m : List UInt8) (hl : l.length = 32) (hm : m.length = 32) (w : World) : (Op.equalIn 10000 23 (.agg (U l).toArray) (.agg (U m).toArray)).run Tryd.prog w = .ok (decide (l = m)) w := by
  obtain ⟨i, hi, _⟩ := info_parts info_u8
  have hc : Tryd.prog.cellsOf 5 = 1 := by kernel_rfl
  have := run_equalIn_array (P := Tryd.prog) (w := w) 9999 (U l).toArray (U m).toArray Tryd.underlying23 hi
  rw [this, hc, items_u8 9998 l m w hl hm _ (fun i h => List.mem_range.1 h), all_by l m hl hm]
theorem eq_self (l : List UInt8) (hl : l.length = 32) (w : World) : (Op.equalIn 10000 23 (.agg (U l).toArray) (.agg (U l).toArray)).run Tryd.prog w = .ok true w := by
  rw [eq_dig l l hl hl, decide_eq_true rfl]
/-- a digest and an error number, handed back -/
theorem res_two {fn : Func} {p q : Tmp} (h : fn.results = #[.cell p 23, .tmp q]) (tmps : Array Value) (w : World) (g : Nat) (t : TypeId) (l : List UInt8) (v : Value)
    (hp : tmps.getD p undef = .pointer (some ⟨g, 0, none⟩)) (hq : tmps.getD q undef = v) (hg : RowB w g t l) (hl : l.length = 32) :
    (results fn tmps).run Tryd.prog w = .ok (.tuple #[.agg (U l).toArray, v]) w := by
  have hld := run_loadVar_row (P := Tryd.prog) w g t 23 _ (0, 0) _ hg Tryd.underlying23 rfl (by rw [sz32, U_size, hl])
  have hp' : tmps[p]?.getD undef = .pointer (some ⟨g, 0, none⟩) := by simpa using hp
  have hq' : tmps[q]?.getD undef = v := by simpa using hq
  simp [results, h, hp', hq', asAddr, hld]
def z32 : List UInt8 := List.replicate 32 0
theorem info_d : (Tryd.prog.info? 23).map (fun i => (i.zero, i.size, i.bytes)) = some (some (.agg (U z32).toArray), 32, 32) := by kernel_rfl
theorem fold_set : ∀ (vs : List Value) (k : Nat) (cs : Array Value), k + vs.length = cs.size → ((vs.zipIdx k).foldl (fun cs x => cs.setIfInBounds x.2 x.1) cs).toList = cs.toList.take k ++ vs
  | [], k, cs, h => by
    have : cs.toList.take k = cs.toList := List.take_of_length_le (by simp at h ⊢; omega)
    simp [this]
  | v :: vs, k, cs, h => by
    have hk : k < cs.toList.length := by simp at h ⊢; omega
    rw [List.zipIdx_cons, List.foldl_cons, fold_set vs (k + 1) _ (by simp at h ⊢; omega)]
    have e : (cs.setIfInBounds k v).toList = cs.toList.take k ++ v :: cs.toList.drop (k + 1) := by
      rw [Array.toList_setIfInBounds, List.set_eq_take_append_cons_drop, if_pos hk]
    rw [e, List.take_append, List.length_take, Nat.min_eq_left (by omega), List.take_of_length_le (by rw [List.length_take]; omega), show k + 1 - k = 1 by omega]
    simp
/-- a list of one digest, as a literal -/
theorem run_bs (d : List UInt8) (hd : d.length = 32) (w : World) : (Instr.buildSlice 24 1 #[(0, .agg (U d).toArray)]).run Tryd.prog w = .ok (.slice (some ⟨w.heap.size, 0, none⟩) 1 1) (w.alloc (.cells (U d).toArray 23)) := by
  obtain ⟨i, hi, hz0, hz1, hz2⟩ := info_parts info_d
  refine run_buildSlice w 24 23 1 _ _ i _ Tryd.underlying24 hi hz0 (by rw [hz1]; omega) (by rw [hz1]; omega) ?_
  rw [hz1]
  have hu : (U d).length = 32 := by rw [U_length, hd]
  have hf := fold_set (U d) 0 (Array.map (fun x => (U z32)[x % (U z32).length]?.getD default) (Array.range 32)) (by simp [hu])
  simp [Instr.fill, Value.cells, hu]
  apply Array.toList_inj.1
  rw [hf]
  simp
theorem run_mk64 (w : World) : (Instr.makeSlice 41 (.int .i64 64) (.int .i64 64)).run Tryd.prog w = .ok (.slice (some ⟨w.heap.size, 0, none⟩) 64 64) (w.alloc (.cells (U (List.replicate 64 0)).toArray 5)) := by
  obtain ⟨i, hi, hz0, hz1, hz2⟩ := info_parts info_u8
  have := run_makeSlice (P := Tryd.prog) (w := w) 41 5 i (.int .u8 0) Tryd.underlying41 hi hz0 .i64 .i64 64 64 (by decide) (by decide) (by rw [hz1]; decide) (by rw [hz2]; decide) (by decide)
  rw [hz1] at this
  have e : madeCells (Value.int .u8 0).cells 64 = (U (List.replicate 64 0)).toArray := by kernel_rfl
  rw [show Int.toNat 64 * 1 = 64 from rfl, e] at this
  exact this
theorem frz (w : World) (c : Array Value) (t : TypeId) (n : Nat) : ((w.alloc (.cells c t)).freeze ⟨w.heap.size, n, none⟩ 1).heap[w.heap.size]? = some (.cells c t (n, n + 1)) ∧
    Below w.heap.size w ((w.alloc (.cells c t)).freeze ⟨w.heap.size, n, none⟩ 1) ∧ ((w.alloc (.cells c t)).freeze ⟨w.heap.size, n, none⟩ 1).heap.size = w.heap.size + 1 := by
  refine ⟨?_, ⟨rfl, rfl, rfl, ?_, fun k hk => ?_⟩, ?_⟩
  · simp [World.freeze, World.alloc, -World.alloc_eq]
    rw [Array.getElem_modify_self]
    simp
  · simp [World.freeze, World.alloc, -World.alloc_eq]
  · have h1 : w.heap.size ≠ k := by omega
    simp [World.freeze, World.alloc, -World.alloc_eq, Array.getElem?_modify, Array.getElem?_push, h1, Ne.symm h1]
  · simp [World.freeze, World.alloc, -World.alloc_eq]
theorem wp_app_own {o : Oper} {a : Act} {K : Act → World → Prop} {Q : Exit → Act → World → Prop} {w : World} (s x : Operand)
    (ho : o.op = .call { callee := .builtin .append, args := #[s, x], argTypes := #[41, 41] })
    (base : Nat) (v : Value) (S : Nat → Prop) (A : Option Addr) (cap : Nat) (l l2 : List UInt8) (hs : a.eval s = v) (hx : a.eval x = .slice A l2.length cap) (hown : Own w base v l) (hsrc : Byt w S l2 A cap)
    (hlen : l.length + l2.length ≤ 140737488355328) (hbase : base ≤ w.heap.size)
    (h : ∀ v' w', Own w' base v' (l ++ l2) → w.grownBy w' v.ownBlock → K (a.put o.dst v') w') : o.wp Tryd.prog a w K Q := by
  obtain ⟨i, hi, hz0, hz1, hz2⟩ := info_parts info_u8
  rcases A with _ | ad
  · obtain rfl := hsrc.2.2.1 rfl
    have h0 := hsrc.1
    obtain rfl : l2 = [] := List.eq_nil_of_length_eq_zero (by omega)
    have hrun := run_append_owned_none (P := Tryd.prog) (w := w) base 41 o.type 5 i 1 Tryd.underlying41 hi v l.length (U l) hown
    have hx' : a.eval x = .slice none 0 0 := hx
    have := h v w (by rw [List.append_nil]; exact hown) ⟨rfl, rfl, rfl, Nat.le_refl _, fun _ _ _ => rfl⟩
    unfold Oper.wp
    simp [execOp, ho, resolve, invoke, builtin, hs, hx', hrun, Result.andThen]
    exact this
  · refine wp_append_own w s x 41 ho base 5 i (.int .u8 0) 1 1 Tryd.underlying41 hi hz0 hz1 hz2 rfl (by omega) v l.length (U l) hs hown ad l2.length cap (U l2)
      hx (by rw [U_length, Nat.mul_one]) (fun j u hu => ?_) (U_one l2) (by simp only [maxLen]; omega) (by omega) hbase ?_
    · have hj : j < l2.length := by
        by_cases h : j < l2.length
        · exact h
        · rw [List.getElem?_eq_none (by rw [U_length]; omega)] at hu; cases hu
      obtain ⟨b, o, e, _, hc⟩ := hsrc.2.2.2 (by omega)
      injection e with e
      subst e
      rw [Go.WideShapes.add_plain]
      exact hc j u hu
    · intro v' w' h1 h2 _
      refine h v' w' ?_ h2
      unfold Own
      rw [List.length_append, U_append]
      exact h1
theorem step_app_own {ops : Array Oper} {o : Oper} {a : Act} {K : Act → World → Prop} {Q : Exit → Act → World → Prop} {E : Prop} {w : World} (hgd : o.guard = none) (s x : Operand)
    (ho : o.op = .call { callee := .builtin .append, args := #[s, x], argTypes := #[41, 41] })
    (base : Nat) (v : Value) (S : Nat → Prop) (A : Option Addr) (cap : Nat) (l l2 : List UInt8) (hs : a.eval s = v) (hx : a.eval x = .slice A l2.length cap) (hown : Own w base v l) (hsrc : Byt w S l2 A cap)
    (hlen : l.length + l2.length ≤ 140737488355328) (hbase : base ≤ w.heap.size)
    (h : ∀ v' w', Own w' base v' (l ++ l2) → w.grownBy w' v.ownBlock → K (a.put o.dst v') w') : if Region.wanted o (yielded ops a.tmps) = true then Oper.wp Tryd.prog o a w K Q else E := by
  have hw : Region.wanted o (yielded ops a.tmps) = true := by simp [Region.wanted, hgd]
  rw [if_pos hw]
  exact wp_app_own s x ho base v S A cap l l2 hs hx hown hsrc hlen hbase h
/-- append of a digest's bytes onto a slice without room -/
theorem step_app_new {ops : Array Oper} {o : Oper} {a : Act} {K : Act → World → Prop} {Q : Exit → Act → World → Prop} {E : Prop} {w : World} (hgd : o.guard = none) (s x : Operand)
    (ho : o.op = .call { callee := .builtin .append, args := #[s, x], argTypes := #[41, 41] })
    (g b n : Nat) (t : TypeId) (l : List UInt8) (hs : a.eval s = .slice (some ⟨g, 0, none⟩) 0 0) (hx : a.eval x = .slice (some ⟨b, 0, none⟩) n n) (hn : n = l.length) (hpos : 0 < n) (hrow : RowB w b t l)
    (hlen : l.length ≤ 140737488355328)
    (h : ∀ A' c' w', Own w' w.heap.size (.slice A' l.length c') l → Below w.heap.size w w' → K (a.put o.dst (.slice A' l.length c')) w') : if Region.wanted o (yielded ops a.tmps) = true then Oper.wp Tryd.prog o a w K Q else E := by
  have hw : Region.wanted o (yielded ops a.tmps) = true := by simp [Region.wanted, hgd]
  rw [if_pos hw]
  obtain ⟨i, hi, hz0, hz1, hz2⟩ := info_parts info_u8
  subst hn
  obtain ⟨v', w', hrun, h1, h2⟩ := run_append_arg_grows (P := Tryd.prog) w 41 o.type 5 i (.int .u8 0) 1 1 Tryd.underlying41 hi hz0 hz1 hz2 rfl (by omega) ⟨g, 0, none⟩ 0 0 [] rfl
    (fun j u hu => by cases hu) ⟨b, 0, none⟩ l.length l.length (U l) (by rw [U_length, Nat.mul_one]) (fun j u hu => by
      rw [Go.WideShapes.add_plain, Nat.zero_add, cell_of_row w b j _ _ _ hrow]
      simpa using hu) (by omega) (by simp only [maxLen]; omega) (by omega)
  rw [Nat.zero_add, List.nil_append] at h1
  have hown : Own w' w.heap.size v' l := h1
  obtain ⟨A', c', rfl, _⟩ := hown.byt
  have := h A' c' w' hown ((Below.refl _ _).grown h2 (Nat.le_refl _) (fun k hk => by cases hk))
  unfold Oper.wp
  simp [execOp, ho, resolve, invoke, builtin, hs, hx, hrun, Result.andThen]
  exact this
/-- a slice of digests of the call's own -/
def OwnD (w : World) (base : Nat) (v : Value) (L : List (List UInt8)) : Prop := w.ownsRow base 23 32 v L.length (L.flatMap U) ∧ ∀ d ∈ L, d.length = 32
theorem flat_len (L : List (List UInt8)) (h : ∀ d ∈ L, d.length = 32) : (L.flatMap U).length = L.length * 32 := by
  induction L with
  | nil => rfl
  | cons d L ih =>
    have h1 := h d (List.mem_cons_self ..)
    rw [List.flatMap_cons, List.length_append, ih (fun x hx => h x (List.mem_cons_of_mem _ hx)), U_length, h1, List.length_cons]
    omega
theorem flat_at : ∀ (L : List (List UInt8)) (i : Nat) (d : List UInt8) (j : Nat) (u : Value), (∀ d ∈ L, d.length = 32) → L[i]? = some d → (U d)[j]? = some u → (L.flatMap U)[i * 32 + j]? = some u
  | [], i, d, j, u, _, hd, _ => by simp at hd
  | c :: L, 0, d, j, u, h, hd, hu => by
    simp at hd
    subst hd
    have hj : j < (U c).length := by
      by_cases hc : j < (U c).length
      · exact hc
      · rw [List.getElem?_eq_none (by omega)] at hu; cases hu
    rw [List.flatMap_cons, Nat.zero_mul, Nat.zero_add, List.getElem?_append_left hj]
    exact hu
  | c :: L, i + 1, d, j, u, h, hd, hu => by
    have h1 := h c (List.mem_cons_self ..)
    have ih := flat_at L i d j u (fun x hx => h x (List.mem_cons_of_mem _ hx)) (by simpa using hd) hu
    rw [List.flatMap_cons, List.getElem?_append_right (by rw [U_length, h1]; omega), U_length, h1, show (i + 1) * 32 + j - 32 = i * 32 + j by omega]
    exact ih
theorem OwnD.dl {w : World} {b : Nat} {v : Value} {L : List (List UInt8)} (h : OwnD w b v L) : ∃ A cap, v = .slice A L.length cap ∧ DL w (fun i => b ≤ i ∧ i < w.heap.size) L A cap := by
  have hcs : ∀ g, v.ownBlock = some g → ∀ j u, (L.flatMap U)[j]? = some u → w.cell? ((⟨g, 0, none⟩ : Addr).add j) = some u := fun g hg => World.ownsRow.cells h.1 hg
  rcases h.1.2 with ⟨rfl, h0⟩ | ⟨g, cap, cur, rfl, hb, hh, h1, h2, _⟩
  · exact ⟨none, 0, by rw [h0], by omega, Nat.zero_le _, fun _ => rfl, h.2, fun hp => by omega⟩
  · refine ⟨some ⟨g, 0, none⟩, cap, rfl, h1, h2, (fun e => by cases e), h.2, fun _ => ⟨g, 0, rfl, ⟨hb, (Array.getElem?_eq_some_iff.1 hh).1⟩, fun i d hd j u hu => ?_⟩⟩
    have := hcs g rfl (i * 32 + j) u (flat_at L i d j u h.2 hd hu)
    rw [Nat.zero_add]
    rwa [Go.WideShapes.add_plain, Nat.zero_add] at this
theorem OwnD.slice {w : World} {b : Nat} {v : Value} {L : List (List UInt8)} (h : OwnD w b v L) : ∃ A cap, v = .slice A L.length cap := by
  obtain ⟨A, cap, e, _⟩ := h.dl
  exact ⟨A, cap, e⟩
theorem OwnD.alloc {w : World} {b : Nat} {v : Value} {L : List (List UInt8)} (h : OwnD w b v L) (o : Obj) : OwnD (w.alloc o) b v L := ⟨World.ownsRow.alloc h.1 o, h.2⟩
theorem OwnD.kept {w w' : World} {b : Nat} {v : Value} {L : List (List UInt8)} (h : OwnD w b v L) (hk : ∀ g, v.ownBlock = some g → w'.heap[g]? = w.heap[g]?) : OwnD w' b v L := by
  refine ⟨⟨h.1.1, ?_⟩, h.2⟩
  rcases h.1.2 with h | ⟨g, cap, cur, e, hg, hh, r⟩
  · exact .inl h
  · exact .inr ⟨g, cap, cur, e, hg, by rw [hk g (by rw [e]; rfl)]; exact hh, r⟩
theorem OwnD.nil (w : World) (b : Nat) : OwnD w b (.slice none 0 0) [] := ⟨World.ownsRow_nil _ _ _ _, fun d hd => by cases hd⟩
theorem ownD_empty (w : World) : OwnD (w.alloc (.cells #[] 23)) w.heap.size (.slice (some ⟨w.heap.size, 0, none⟩) 0 0) [] :=
  ⟨⟨rfl, .inr ⟨w.heap.size, 0, #[], rfl, Nat.le_refl _, heap_alloc_new w _, Nat.le_refl _, Nat.zero_le _, rfl, rfl⟩⟩, fun d hd => by cases hd⟩
theorem below_ownD {B b : Nat} {a w w' : World} {v : Value} {L : List (List UInt8)} (h : Below B a w) (hg : w.grownBy w' v.ownBlock) (ho : OwnD w b v L) (hb : B ≤ b) (hs : B ≤ w.heap.size) : Below B a w' :=
  h.grown hg hs fun k hk => by have := (World.ownsRow.lt ho.1 k hk).1; omega
theorem wp_app_dig {o : Oper} {a : Act} {K : Act → World → Prop} {Q : Exit → Act → World → Prop} {w : World} (s x : Operand)
    (ho : o.op = .call { callee := .builtin .append, args := #[s, x], argTypes := #[24, 24] })
    (base g : Nat) (v : Value) (L : List (List UInt8)) (d : List UInt8) (hs : a.eval s = v) (hx : a.eval x = .slice (some ⟨g, 0, none⟩) 1 1) (hown : OwnD w base v L) (hsrc : RowB w g 23 d) (hd : d.length = 32)
    (hlen : L.length + 1 ≤ 1099511627776) (hbase : base ≤ w.heap.size)
    (h : ∀ v' w', OwnD w' base v' (L ++ [d]) → w.grownBy w' v.ownBlock → K (a.put o.dst v') w') : o.wp Tryd.prog a w K Q := by
  obtain ⟨i, hi, hz0, hz1, hz2⟩ := info_parts info_d
  refine wp_append_own w s x 24 ho base 23 i (.agg (U z32).toArray) 32 32 Tryd.underlying24 hi hz0 hz1 hz2 rfl (by omega) v L.length (L.flatMap U) hs hown.1 ⟨g, 0, none⟩ 1 1 (U d)
    hx (by rw [U_length, hd]) (fun j u hu => ?_) (U_one d) (by simp only [maxLen]; omega) (by omega) hbase ?_
  · rw [Go.WideShapes.add_plain, Nat.zero_add, cell_of_row w g j _ _ _ hsrc]
    simpa using hu
  · intro v' w' h1 h2 _
    refine h v' w' ⟨?_, fun c hc => ?_⟩ h2
    · rw [List.length_append, List.flatMap_append]
      simpa using h1
    · rcases List.mem_append.1 hc with hc | hc
      · exact hown.2 c hc
      · rw [List.mem_singleton.1 hc]; exact hd
theorem app_dig {ops : Array Oper} {rest : List Oper} {o : Oper} {a : Act} {Q : Exit → Act → World → Prop} {w : World} (hgd : o.guard = none) (s x : Operand)
    (ho : o.op = .call { callee := .builtin .append, args := #[s, x], argTypes := #[24, 24] })
    (base g : Nat) (v : Value) (L : List (List UInt8)) (d : List UInt8) (hs : a.eval s = v) (hx : a.eval x = .slice (some ⟨g, 0, none⟩) 1 1) (hown : OwnD w base v L) (hsrc : RowB w g 23 d) (hd : d.length = 32)
    (hlen : L.length + 1 ≤ 1099511627776) (hbase : base ≤ w.heap.size)
    (h : ∀ v' w', OwnD w' base v' (L ++ [d]) → w.grownBy w' v.ownBlock → wpList Tryd.prog ops Q rest (a.put o.dst v') w') : wpList Tryd.prog ops Q (o :: rest) a w :=
  wpList_plain hgd fun _ hK => wp_app_dig s x ho base g v L d hs hx hown hsrc hd hlen hbase fun v' w' h1 h2 => hK _ _ (h v' w' h1 h2)
/-- a list of one digest -/
theorem bs_dig {ops : Array Oper} {rest : List Oper} {o : Oper} {a : Act} {Q : Exit → Act → World → Prop} {w : World} (hgd : o.guard = none) (x : Operand) (ho : o.op = .buildSlice 24 1 #[(0, x)])
    (d : List UInt8) (hx : a.eval x = .agg (U d).toArray) (hd : d.length = 32)
    (h : wpList Tryd.prog ops Q rest (a.put o.dst (.slice (some ⟨w.heap.size, 0, none⟩) 1 1)) (w.alloc (.cells (U d).toArray 23))) : wpList Tryd.prog ops Q (o :: rest) a w := by
  refine wpList_plain hgd fun K hK => ?_
  have hrun := run_bs d hd w
  unfold Oper.wp
  simp [execOp, ho, hx, hrun, Result.andThen]
  exact hK _ _ h
theorem RowB.b32 {w : World} {b : Nat} {t : TypeId} {l : List UInt8} (h : RowB w b t l) (hl : l.length = 32) : Byt w (fun i => i = b) l (some ⟨b, 0, none⟩) 32 := by
  have := h.byt (by rw [hl]; decide)
  rwa [hl] at this
theorem setRow_keep (w : World) (g k : Nat) (c : Array Value) (h : k ≠ g) : (w.setRow g c).heap[k]? = w.heap[k]? := setRow_other _ _ _ _ h
theorem step_store_B {ops : Array Oper} {o : Oper} {a : Act} {K : Act → World → Prop} {Q : Exit → Act → World → Prop} {E : Prop} {w : World} (hgd : o.guard = none) (x y : Operand) (ho : o.op = .store 23 x y)
    (g : Nat) (l l' : List UInt8) (hx : a.eval x = .pointer (some ⟨g, 0, none⟩)) (hy : a.eval y = .agg (U l').toArray) (h : RowB w g 23 l) (hl : l.length = 32) (hl' : l'.length = 32)
    (hK : K (a.put o.dst undef) (w.setRow g (U l').toArray)) : if Region.wanted o (yielded ops a.tmps) = true then Oper.wp Tryd.prog o a w K Q else E := by
  have hw : Region.wanted o (yielded ops a.tmps) = true := by simp [Region.wanted, hgd]
  rw [if_pos hw]
  exact wp_store_row 23 x y ho g _ hx hy 23 _ h (by rw [sz32, U_size, hl']) (by rw [U_size, U_size, hl, hl']) (U_ones l') hK
theorem step_alloc_B {ops : Array Oper} {o : Oper} {a : Act} {K : Act → World → Prop} {Q : Exit → Act → World → Prop} {E : Prop} {w : World} (hgd : o.guard = none) (ho : o.op = .alloc 23)
    (hK : K (a.put o.dst (.pointer (some ⟨w.heap.size, 0, none⟩))) (w.alloc (.cells (U (flb 32 [])).toArray 23))) : if Region.wanted o (yielded ops a.tmps) = true then Oper.wp Tryd.prog o a w K Q else E := by
  have hw : Region.wanted o (yielded ops a.tmps) = true := by simp [Region.wanted, hgd]
  rw [if_pos hw]
  unfold Oper.wp
  simp [execOp, ho, Result.andThen]
  exact hK
theorem RowB.ld {w : World} {b : Nat} {t : TypeId} {l : List UInt8} (h : RowB w b t l) (hl : l.length = 32) : (loadVar 23 ⟨b, 0, none⟩).run Tryd.prog w = .ok (.agg (U l).toArray) w :=
  run_loadVar_row w b t 23 _ (0, 0) _ h Tryd.underlying23 rfl (by rw [sz32, U_size, hl])
theorem RowB.range {w : World} {b : Nat} {t : TypeId} {l : List UInt8} (h : RowB w b t l) : w.rangeAt b 0 (U l) := fun j u hu => by
  rw [Nat.zero_add, cell_of_row w b j _ _ _ h]
  simpa using hu
theorem OwnD.low {w : World} {b b' : Nat} {v : Value} {L : List (List UInt8)} (h : OwnD w b v L) (hb : b' ≤ b) : OwnD w b' v L := by
  refine ⟨⟨h.1.1, ?_⟩, h.2⟩
  rcases h.1.2 with h | ⟨g, cap, cur, e, hg, hh, r⟩
  · exact .inl h
  · exact .inr ⟨g, cap, cur, e, by omega, hh, r⟩
theorem OwnD.step {w w' : World} {b : Nat} {v : Value} {L : List (List UInt8)} (h : OwnD w b v L) (hb : Below w.heap.size w w') : OwnD w' b v L :=
  h.kept fun g hg => hb.block g (World.ownsRow.lt h.1 g hg).2
theorem step_app_dig {ops : Array Oper} {o : Oper} {a : Act} {K : Act → World → Prop} {Q : Exit → Act → World → Prop} {E : Prop} {w : World} (hgd : o.guard = none) (s x : Operand)
    (ho : o.op = .call { callee := .builtin .append, args := #[s, x], argTypes := #[24, 24] })
    (base g : Nat) (v : Value) (L : List (List UInt8)) (d : List UInt8) (hs : a.eval s = v) (hx : a.eval x = .slice (some ⟨g, 0, none⟩) 1 1) (hown : OwnD w base v L) (hsrc : RowB w g 23 d) (hd : d.length = 32)
    (hlen : L.length + 1 ≤ 1099511627776) (hbase : base ≤ w.heap.size)
    (h : ∀ v' w', OwnD w' base v' (L ++ [d]) → w.grownBy w' v.ownBlock → K (a.put o.dst v') w') : if Region.wanted o (yielded ops a.tmps) = true then Oper.wp Tryd.prog o a w K Q else E := by
  have hw : Region.wanted o (yielded ops a.tmps) = true := by simp [Region.wanted, hgd]
  rw [if_pos hw]
  exact wp_app_dig s x ho base g v L d hs hx hown hsrc hd hlen hbase h
/-- a digest laid into new cells -/
theorem fold32 (d : List UInt8) (hd : d.length = 32) : (U d).length = 32 ∧ List.foldl (fun cs x => cs.setIfInBounds x.2 x.1) #[Value.int IntKind.u8 0, Value.int IntKind.u8 0, Value.int IntKind.u8 0, Value.int IntKind.u8 0, Value.int IntKind.u8 0, Value.int IntKind.u8 0, Value.int IntKind.u8 0, Value.int IntKind.u8 0, Value.int IntKind.u8 0, Value.int IntKind.u8 0, Value.int IntKind.u8 0, Value.int IntKind.u8 0, Value.int IntKind.u8 0, Value.int IntKind.u8 0, Value.int IntKind.u8 0, Value.int IntKind.u8 0, Value.int IntKind.u8 0, Value.int IntKind.u8 0, Value.int IntKind.u8 0, Value.int IntKind.u8 0, Value.int IntKind.u8 0, Value.int IntKind.u8 0, Value.int IntKind.u8 0, Value.int IntKind.u8 0, Value.int IntKind.u8 0, Value.int IntKind.u8 0, Value.int IntKind.u8 0, Value.int IntKind.u8 0, Value.int IntKind.u8 0, Value.int IntKind.u8 0, Value.int IntKind.u8 0, Value.int IntKind.u8 0] (U d).zipIdx = (U d).toArray := by
  have hu : (U d).length = 32 := by rw [U_length, hd]
  refine ⟨hu, ?_⟩
  apply Array.toList_inj.1
  rw [fold_set (U d) 0 _ (by rw [hu]; rfl)]
  simp
theorem flat_idx : ∀ (P : List (List UInt8)) (j : Nat) (u : Value), (∀ d ∈ P, d.length = 32) → (P.flatMap U)[j]? = some u → ∃ i d, P[i]? = some d ∧ (U d)[j - i * 32]? = some u ∧ i * 32 ≤ j
  | [], j, u, _, h => by simp at h
  | c :: P, j, u, hd, h => by
    have h1 := hd c (List.mem_cons_self ..)
    rw [List.flatMap_cons] at h
    by_cases hj : j < 32
    · rw [List.getElem?_append_left (by rw [U_length, h1]; exact hj)] at h
      exact ⟨0, c, rfl, by simpa using h, by omega⟩
    · rw [List.getElem?_append_right (by rw [U_length, h1]; omega), U_length, h1] at h
      obtain ⟨i, d, e1, e2, e3⟩ := flat_idx P (j - 32) u (fun x hx => hd x (List.mem_cons_of_mem _ hx)) h
      exact ⟨i + 1, d, by simpa using e1, by rw [show j - (i + 1) * 32 = j - 32 - i * 32 by omega]; exact e2, by omega⟩
theorem DL.one {w : World} {g : Nat} {t : TypeId} {d : List UInt8} (h : RowB w g t d) (hd : d.length = 32) : DL w (· = g) [d] (some ⟨g, 0, none⟩) 1 := by
  refine ⟨Nat.le_refl _, by simp only [maxLen]; omega, (fun e => by cases e), fun x hx => by rw [List.mem_singleton.1 hx]; exact hd, fun _ => ⟨g, 0, rfl, rfl, fun i x hx => ?_⟩⟩
  cases i with
  | zero => simp at hx; subst hx; exact h.range
  | succ i => simp at hx
/-- what an append leaves of a box beside it -/
theorem RowB.grown {w w' : World} {g : Nat} {t : TypeId} {l : List UInt8} {v : Value} (h : RowB w g t l) (hg : w.grownBy w' v.ownBlock) (hn : v.ownBlock ≠ some g) : RowB w' g t l :=
  h.keep (hg.block g h.lt (Ne.symm hn))
end Go.Proofs.YtllkkafajchioaaDoor
