/- Codec: the list of values as one value; append with the place of the new slice. Plain. -/
import Derived.Test.YtomiacedailmaaaCV
namespace Go.Proofs.Ytomiacedailmaaa
open Go.RowKit

theorem chk_parts {v : V} (h : v.chk = 0) : v.wf = true ∧ v.depth ≤ 16 := by
  unfold V.chk at h
  split at h
  · split at h
    · simp at h
    · exact ⟨by assumption, by omega⟩
  · simp at h
/-- the list of values, as a value -/
def vl (f : F) : V := ⟨3, 0, ⟨#[]⟩, f⟩
theorem vl_wf (f : F) : (vl f).wf = f.toList.all V.wf := by
  rw [← F.wf_all]
  simp [V.wf, vl, wf1, empty_nil]
theorem vl_depth (f : F) : (vl f).depth = dmax f.toList + 1 := by
  simp [V.depth, vl, d1, F.depth_eq]
theorem vl_enc (f : F) : (vl f).enc = 3 :: (numf 10 f.len ++ f.toList.flatMap V.enc) := by
  simp [V.enc, vl, enc1, F.enc_eq]
theorem vl_bad {f : F} {u : V} (hu : u ∈ f.toList) (h : u.chk ≠ 0) : (vl f).chk ≠ 0 := by
  intro hc
  obtain ⟨h1, h2⟩ := chk_parts hc
  rw [vl_wf, List.all_eq_true] at h1
  rw [vl_depth] at h2
  have := dmax_mem hu
  exact h (by rw [V.chk, if_pos (h1 u hu), if_neg (by omega)])
theorem vl_good {f : F} (h : ∀ u ∈ f.toList, u.chk = 0) : (vl f).chk = 0 ∨ (vl f).chk = 2 := by
  have hw : (vl f).wf = true := by
    rw [vl_wf, List.all_eq_true]
    exact fun u hu => (chk_parts (h u hu)).1
  rw [V.chk, if_pos hw]
  split <;> simp
theorem dmax_le {l : List V} {n : Nat} (h : ∀ u ∈ l, u.depth ≤ n) : dmax l ≤ n := by
  induction l with
  | nil => exact Nat.zero_le _
  | cons u r ih =>
    simp only [dmax]
    have := h u (List.mem_cons_self ..)
    have := ih fun x hx => h x (List.mem_cons_of_mem _ hx)
    omega
theorem flat_le {l : List V} {n : Nat} (h : ∀ u ∈ l, u.enc.length ≤ n) : (l.flatMap V.enc).length ≤ l.length * n := by
  induction l with
  | nil => simp
  | cons u r ih =>
    rw [List.flatMap_cons, List.length_append, List.length_cons, Nat.succ_mul]
    have := h u (List.mem_cons_self ..)
    have := ih fun x hx => h x (List.mem_cons_of_mem _ hx)
    omega
/-- what the guard on sizes says of the whole list -/
theorem vl_bd {f : F} (h : allFew f.toList = true) (hn : f.len ≤ 20) : (vl f).depth ≤ 22 ∧ (vl f).enc.length ≤ 1200011 ∧ ∀ k, ((f.toList.take k).flatMap V.enc).length ≤ 1200000 := by
  have hd := dmax_le (l := f.toList) (n := 21) fun u hu => (allFew_mem h hu).1
  have hk : ∀ k, ((f.toList.take k).flatMap V.enc).length ≤ 1200000 := fun k => by
    have := flat_le (l := f.toList.take k) (n := 60000) fun u hu => (allFew_mem h (List.mem_of_mem_take hu)).2
    have hl : (f.toList.take k).length ≤ 20 := by rw [List.length_take, F.len_toList]; omega
    have := Nat.mul_le_mul_right 60000 hl
    omega
  refine ⟨by rw [vl_depth]; omega, ?_, hk⟩
  have := hk f.toList.length
  rw [List.take_length] at this
  rw [vl_enc, List.length_cons, List.length_append]
  have := numf_len 10 f.len
  omega

/-- the number 0 -/
def zv : V := ⟨1, 0, ⟨#[]⟩, .nil⟩
theorem zv_is : zv.chk = 0 ∧ zv.depth = 0 ∧ zv.enc.length = 2 := by decide +kernel
def zs (k : Nat) : F := F.ofList (List.replicate k zv)
theorem zs_list (k : Nat) : (zs k).toList = List.replicate k zv := F.toList_ofList _
theorem zs_len (k : Nat) : (zs k).len = k := by rw [← F.len_toList, zs_list, List.length_replicate]
theorem zs_is (k : Nat) : (vl (zs k)).chk = 0 ∧ (vl (zs k)).depth ≤ 1 ∧ (vl (zs k)).enc.length = 1 + (numf 10 k).length + 2 * k := by
  have hz : ∀ u ∈ (zs k).toList, u = zv := fun u hu => by rw [zs_list] at hu; exact List.eq_of_mem_replicate hu
  have hd : dmax (zs k).toList ≤ 0 := dmax_le fun u hu => by rw [hz u hu, zv_is.2.1]; exact Nat.le_refl _
  have hw : (vl (zs k)).wf = true := by
    rw [vl_wf, List.all_eq_true]
    exact fun u hu => by rw [hz u hu]; exact (chk_parts zv_is.1).1
  refine ⟨by rw [V.chk, if_pos hw, if_neg (by rw [vl_depth]; omega)], by rw [vl_depth]; omega, ?_⟩
  have hf : ∀ n, ((List.replicate n zv).flatMap V.enc).length = 2 * n := fun n => by
    induction n with
    | zero => rfl
    | succ n ih => rw [List.replicate_succ, List.flatMap_cons, List.length_append, ih, zv_is.2.2]; omega
  rw [vl_enc, List.length_cons, List.length_append, zs_list, hf, zs_len]
  omega
/-- a row of zeros of the call's own -/
abbrev ez : El := ⟨zv, none, 0⟩
theorem ez_map (k : Nat) : (List.replicate k ez).map El.v = List.replicate k zv := by simp

/-- append of an own slice of bytes onto another one: and where the new one lies -/
theorem app_own_at {ops : Array Oper} {rest : List Oper} {o : Oper} {a : Act} {Q : Exit → Act → World → Prop} {w : World} (hgd : o.guard = none) (s x : Operand)
    (ho : o.op = .call { callee := .builtin .append, args := #[s, x], argTypes := #[27, 27] })
    (base b2 : Nat) (v v2 : Value) (l l2 : List UInt8) (hs : a.eval s = v) (hx : a.eval x = v2) (hown : Own w base v l) (hsrc : Own w b2 v2 l2) (hpos : 0 < l2.length)
    (hlen : l.length + l2.length ≤ 140737488355328) (hbase : base ≤ w.heap.size)
    (h : ∀ v' w', Own w' base v' (l ++ l2) → w.grownBy w' v.ownBlock → (v'.ownBlock = v.ownBlock ∨ v'.ownBlock = some w.heap.size) → wpList Try.prog ops Q rest (a.put o.dst v') w') : wpList Try.prog ops Q (o :: rest) a w := by
  obtain ⟨i, hi, hz0, hz1, hz2⟩ := info_parts info_u8
  obtain ⟨g, cap, e, _, _, _, _, hc⟩ := hsrc.form hpos
  refine wpList_append_own_at _ hgd s x 27 ho base 5 i (.int .u8 0) 1 1 Try.underlying27 hi hz0 hz1 hz2 rfl (by omega) v l.length (U l) hs hown ⟨g, 0, none⟩ l2.length cap (U l2)
    (by rw [hx, e]) (by rw [U_length, Nat.mul_one]) hc (U_one l2) (by simp only [maxLen]; omega) (by omega) hbase ?_
  intro v' w' h1 h2 _ h4
  refine h v' w' ?_ h2 h4
  unfold Own
  rw [List.length_append, U_append]
  exact h1
theorem Byt.drop {w : World} {S : Nat → Prop} {l : List UInt8} {b o cap : Nat} (h : Byt w S l (some ⟨b, o, none⟩) cap) (n : Nat) : Byt w S (l.drop n) (some ⟨b, o + n, none⟩) (cap - n) := by
  refine ⟨by rw [List.length_drop]; have := h.1; omega, by have := h.2.1; omega, fun hp => ?_⟩
  rw [List.length_drop] at hp
  obtain ⟨b', o', e, hS, hc⟩ := h.2.2 (by omega)
  injection e with e
  injection e with e1 e2
  subst e1 e2
  refine ⟨b, o + n, rfl, hS, fun i u hu => ?_⟩
  rw [Nat.add_assoc]
  refine hc (n + i) u ?_
  rw [U, List.getElem?_map] at hu ⊢
  rw [List.getElem?_drop] at hu
  exact hu
end Go.Proofs.Ytomiacedailmaaa
