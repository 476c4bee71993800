/- Digest: the lists that bytes determine. -/
import Derived.Test.YtgojodldnodjpaaDoorHP
namespace Go.Proofs.YtgojodldnodjpaaDoor
open Go.RowKit

/-- a slice of digests of the call's own -/
def OwnD (w : World) (base : Nat) (v : Value) (L : List (List UInt8)) : Prop := w.ownsRow base 26 32 v L.length (L.flatMap U) ∧ ∀ d ∈ L, d.length = 32
theorem flat_len (L : List (List UInt8)) (h : ∀ d ∈ L, d.length = 32) : (L.flatMap U).length = L.length * 32 := by
  induction L with
  | nil => rfl
  | cons d L ih =>
    have h1 := h d (List.mem_cons_self ..)
    rw [List.flatMap_cons, List.length_append, ih (fun x hx => h x (List.mem_cons_of_mem _ hx)), U_length, h1, List.length_cons]
    omega
theorem flat_at : ∀ (L : List (List UInt8)) (i : Nat) (d : List UInt8) (j : Nat) (u : Value), (∀ d ∈ L, d.length = 32) → L[i]? = some d → (U d)[j]? = some u → (L.flatMap U)[i * 32 + j]? = some u
  | [], i, d, j, u, _, hd, _ => by simp at hd
  | c :: L, 0, d, j, u, h, hd, hu => by
    simp at hd
    subst hd
    have hj : j < (U c).length := by
      by_cases hc : j < (U c).length
      · exact hc
      · rw [List.getElem?_eq_none (by omega)] at hu; cases hu
    rw [List.flatMap_cons, Nat.zero_mul, Nat.zero_add, List.getElem?_append_left hj]
    exact hu
  | c :: L, i + 1, d, j, u, h, hd, hu => by
    have h1 := h c (List.mem_cons_self ..)
    have ih := flat_at L i d j u (fun x hx => h x (List.mem_cons_of_mem _ hx)) (by simpa using hd) hu
    rw [List.flatMap_cons, List.getElem?_append_right (by rw [U_length, h1]; omega), U_length, h1, show (i + 1) * 32 + j - 32 = i * 32 + j by omega]
    exact ih
theorem OwnD.dl {w : World} {b : Nat} {v : Value} {L : List (List UInt8)} (h : OwnD w b v L) : ∃ A cap, v = .slice A L.length cap ∧ DL w (fun i => b ≤ i ∧ i < w.heap.size) L A cap := by
  have hcs : ∀ g, v.ownBlock = some g → ∀ j u, (L.flatMap U)[j]? = some u → w.cell? ((⟨g, 0, none⟩ : Addr).add j) = some u := fun g hg => World.ownsRow.cells h.1 hg
  rcases h.1.2 with ⟨rfl, h0⟩ | ⟨g, cap, cur, rfl, hb, hh, h1, h2, _⟩
  · exact ⟨none, 0, by rw [h0], by omega, Nat.zero_le _, fun _ => rfl, h.2, fun hp => by omega⟩
  · refine ⟨some ⟨g, 0, none⟩, cap, rfl, h1, h2, (fun e => by cases e), h.2, fun _ => ⟨g, 0, rfl, ⟨hb, (Array.getElem?_eq_some_iff.1 hh).1⟩, fun i d hd j u hu => ?_⟩⟩
    have := hcs g rfl (i * 32 + j) u (flat_at L i d j u h.2 hd hu)
    rw [Nat.zero_add]
    rwa [Go.WideShapes.add_plain, Nat.zero_add] at this
theorem OwnD.slice {w : World} {b : Nat} {v : Value} {L : List (List UInt8)} (h : OwnD w b v L) : ∃ A cap, v = .slice A L.length cap := by
  obtain ⟨A, cap, e, _⟩ := h.dl
  exact ⟨A, cap, e⟩
theorem OwnD.alloc {w : World} {b : Nat} {v : Value} {L : List (List UInt8)} (h : OwnD w b v L) (o : Obj) : OwnD (w.alloc o) b v L := ⟨World.ownsRow.alloc h.1 o, h.2⟩
theorem OwnD.kept {w w' : World} {b : Nat} {v : Value} {L : List (List UInt8)} (h : OwnD w b v L) (hk : ∀ g, v.ownBlock = some g → w'.heap[g]? = w.heap[g]?) : OwnD w' b v L := by
  refine ⟨⟨h.1.1, ?_⟩, h.2⟩
  rcases h.1.2 with h | ⟨g, cap, cur, e, hg, hh, r⟩
  · exact .inl h
  · exact .inr ⟨g, cap, cur, e, hg, by rw [hk g (by rw [e]; rfl)]; exact hh, r⟩
theorem OwnD.nil (w : World) (b : Nat) : OwnD w b (.slice none 0 0) [] := ⟨World.ownsRow_nil _ _ _ _, fun d hd => by cases hd⟩
theorem ownD_empty (w : World) : OwnD (w.alloc (.cells #[] 26)) w.heap.size (.slice (some ⟨w.heap.size, 0, none⟩) 0 0) [] :=
  ⟨⟨rfl, .inr ⟨w.heap.size, 0, #[], rfl, Nat.le_refl _, heap_alloc_new w _, Nat.le_refl _, Nat.zero_le _, rfl, rfl⟩⟩, fun d hd => by cases hd⟩
theorem below_ownD {B b : Nat} {a w w' : World} {v : Value} {L : List (List UInt8)} (h : Below B a w) (hg : w.grownBy w' v.ownBlock) (ho : OwnD w b v L) (hb : B ≤ b) (hs : B ≤ w.heap.size) : Below B a w' :=
  h.grown hg hs fun k hk => by have := (World.ownsRow.lt ho.1 k hk).1; omega

theorem wp_app_dig {o : Oper} {a : Act} {K : Act → World → Prop} {Q : Exit → Act → World → Prop} {w : World} (s x : Operand)
    (ho : o.op = .call { callee := .builtin .append, args := #[s, x], argTypes := #[30, 30] })
    (base g : Nat) (v : Value) (L : List (List UInt8)) (d : List UInt8) (hs : a.eval s = v) (hx : a.eval x = .slice (some ⟨g, 0, none⟩) 1 1) (hown : OwnD w base v L) (hsrc : RowB w g 26 d) (hd : d.length = 32)
    (hlen : L.length + 1 ≤ 1099511627776) (hbase : base ≤ w.heap.size)
    (h : ∀ v' w', OwnD w' base v' (L ++ [d]) → w.grownBy w' v.ownBlock → K (a.put o.dst v') w') : o.wp Tryd.prog a w K Q := by
  obtain ⟨i, hi, hz0, hz1, hz2⟩ := info_parts info_d
  refine wp_append_own w s x 30 ho base 26 i (.agg (U z32).toArray) 32 32 Tryd.underlying30 hi hz0 hz1 hz2 rfl (by omega) v L.length (L.flatMap U) hs hown.1 ⟨g, 0, none⟩ 1 1 (U d)
    hx (by rw [U_length, hd]) (fun j u hu => ?_) (U_one d) (by simp only [maxLen]; omega) (by omega) hbase ?_
  · rw [Go.WideShapes.add_plain, Nat.zero_add, cell_of_row w g j _ _ _ hsrc]
    simpa using hu
  · intro v' w' h1 h2 _
    refine h v' w' ⟨?_, fun c hc => ?_⟩ h2
    · rw [List.length_append, List.flatMap_append]
      simpa using h1
    · rcases List.mem_append.1 hc with hc | hc
      · exact hown.2 c hc
      · rw [List.mem_singleton.1 hc]; exact hd
theorem app_dig {ops : Array Oper} {rest : List Oper} {o : Oper} {a : Act} {Q : Exit → Act → World → Prop} {w : World} (hgd : o.guard = none) (s x : Operand)
    (ho : o.op = .call { callee := .builtin .append, args := #[s, x], argTypes := #[30, 30] })
    (base g : Nat) (v : Value) (L : List (List UInt8)) (d : List UInt8) (hs : a.eval s = v) (hx : a.eval x = .slice (some ⟨g, 0, none⟩) 1 1) (hown : OwnD w base v L) (hsrc : RowB w g 26 d) (hd : d.length = 32)
    (hlen : L.length + 1 ≤ 1099511627776) (hbase : base ≤ w.heap.size)
    (h : ∀ v' w', OwnD w' base v' (L ++ [d]) → w.grownBy w' v.ownBlock → wpList Tryd.prog ops Q rest (a.put o.dst v') w') : wpList Tryd.prog ops Q (o :: rest) a w :=
  wpList_plain hgd fun _ hK => wp_app_dig s x ho base g v L d hs hx hown hsrc hd hlen hbase fun v' w' h1 h2 => hK _ _ (h v' w' h1 h2)
/-- a list of one digest -/
theorem bs_dig {ops : Array Oper} {rest : List Oper} {o : Oper} {a : Act} {Q : Exit → Act → World → Prop} {w : World} (hgd : o.guard = none) (x : Operand) (ho : o.op = .buildSlice 30 1 #[(0, x)])
    (d : List UInt8) (hx : a.eval x = .agg (U d).toArray) (hd : d.length = 32)
    (h : wpList Tryd.prog ops Q rest (a.put o.dst (.slice (some ⟨w.heap.size, 0, none⟩) 1 1)) (w.alloc (.cells (U d).toArray 26))) : wpList Tryd.prog ops Q (o :: rest) a w := by
  refine wpList_plain hgd fun K hK => ?_
  have hrun := run_bs d hd w
  unfold Oper.wp
  simp [execOp, ho, hx, hrun, Result.andThen]
  exact hK _ _ h

/-- the digest of a byte and a place -/
def dof (x : UInt8) (n : Nat) : List UInt8 := UInt8.ofNat (x.toNat % 4) :: UInt8.ofNat (n / 8) :: List.replicate 30 0

theorem dof_len (x : UInt8) (n : Nat) : (dof x n).length = 32 := by simp [dof]
theorem dof_agg (x : UInt8) (n : Nat) (hn : n < 24) : Value.agg #[Value.int .u8 ((x.toNat : Int) % 4), Value.int .u8 ((n : Int) / 8), Value.int .u8 0, Value.int .u8 0, Value.int .u8 0, Value.int .u8 0, Value.int .u8 0, Value.int .u8 0, Value.int .u8 0, Value.int .u8 0, Value.int .u8 0, Value.int .u8 0, Value.int .u8 0, Value.int .u8 0, Value.int .u8 0, Value.int .u8 0, Value.int .u8 0, Value.int .u8 0, Value.int .u8 0, Value.int .u8 0, Value.int .u8 0, Value.int .u8 0, Value.int .u8 0, Value.int .u8 0, Value.int .u8 0, Value.int .u8 0, Value.int .u8 0, Value.int .u8 0, Value.int .u8 0, Value.int .u8 0, Value.int .u8 0, Value.int .u8 0] = .agg (U (dof x n)).toArray := by
  have e1 : ((UInt8.ofNat (x.toNat % 4)).toNat : Int) = (x.toNat : Int) % 4 := by
    rw [UInt8.toNat_ofNat', Nat.mod_eq_of_lt (by omega)]
    omega
  have e2 : ((UInt8.ofNat (n / 8)).toNat : Int) = (n : Int) / 8 := by
    rw [UInt8.toNat_ofNat', Nat.mod_eq_of_lt (by omega)]
    omega
  rw [← e1, ← e2]
  rfl

set_option maxRecDepth 100000 in
set_option maxHeartbeats 1600000 in
theorem digestsOf_all (l : List UInt8) (A : Option Addr) (cap : Nat) (w : World) (hl : Byt w (· < w.heap.size) l A cap) :
    Calls Tryd.prog 16 #[.slice A l.length cap] w fun e w' => ∃ v L, e = .returned v ∧ OwnD w' w.heap.size v L ∧ L.length = min l.length 24 ∧ Below w.heap.size w w' := by
  have HL := Lib.hid hl
  have hcap := hl.1
  have hcm : cap ≤ 9223372036854775807 := hl.2.1
  clear hl
  have hoe := ownD_empty w
  have HOE := Lib.hid hoe
  clear hoe
  go_enter Tryd.func16, Tryd.ntmps16
  go_wp2_with fail
  go_loopw [3, 4] (fun x i wr => ∃ (n : Nat) (L : List (List UInt8)) (A4 : Option Addr) (c4 : Nat), x = .slice A4 L.length c4 ∧ i = .int .i64 n ∧ n ≤ l.length ∧ n ≤ 24 ∧ L.length = n ∧ OwnD wr w.heap.size (.slice A4 L.length c4) L ∧ Below w.heap.size w wr) (fun _ i _ => 24 - (intOf i).toNat)
  case atStart => exact ⟨0, [], _, _, rfl, rfl, by omega, by omega, rfl, HOE.out, (Below.refl _ _).alloc (Nat.le_refl _) _⟩
  case round =>
    obtain ⟨n, L, A4, c4, rfl, rfl, hn, hn2, hlen, ho, hb⟩ := hrel
    have HO := Lib.hid ho
    have HB := Lib.hid hb
    have HLEN := Lib.hid hlen
    have hz := hb.size
    have hbd : L.length ≤ 24 := by omega
    by_cases hlt : n < l.length
    · by_cases hlt2 : n < 24
      · obtain ⟨b, o, rfl, hS, _⟩ := HL.out.2.2.2 (by omega)
        have hc := by_cell (HL.out.keep (w' := wr) (S' := (· < w.heap.size)) fun i hi => ⟨hi, hb.block i hi⟩) n hlt
        have HOA := Lib.hid (ho.alloc (.cells (U (dof (by_ l n) n)).toArray 26))
        have HSRC := Lib.hid (show RowB (wr.alloc (.cells (U (dof (by_ l n) n)).toArray 26)) wr.heap.size 26 (dof (by_ l n) n) from heap_alloc_new wr _)
        have hda := dof_agg (by_ l n) n hlt2
        have HDA := Lib.hid hda
        clear ho hb hlen hS hda
        go_wp2_with (first
          | (refine bs_dig rfl (.tmp 25) rfl (dof (by_ l n) n) HDA.out (dof_len _ _) ?_)
          | (at_builtin; refine app_dig rfl (.tmp 16) (.tmp 26) rfl w.heap.size wr.heap.size _ L (dof (by_ l n) n) rfl rfl HOA.out HSRC.out (dof_len _ _) (by omega) (by simp; omega) ?_; intro v5 w5 ho5 hg5; obtain ⟨A5, c5, e5⟩ := ho5.slice; subst e5; have HO5 := Lib.hid ho5; have HB5 := Lib.hid (below_ownD (HB.out.alloc hz _) hg5 HOA.out (Nat.le_refl _) (by simp; omega)); clear ho5 hg5))
        go_roundw
        case rel => exact ⟨n + 1, L ++ [dof (by_ l n) n], A5, c5, by simp, rfl, by omega, by omega, by simp [HLEN.out], HO5.out, HB5.out⟩
        case measure => simp [intOf]; omega
      · clear ho hb hlen
        go_wp2_with fail
        go_ret
        refine ⟨_, L, rfl, HO.out, by have := HLEN.out; omega, HB.out⟩
    · clear ho hb hlen
      go_wp2_with fail
      go_ret
      refine ⟨_, L, rfl, HO.out, by have := HLEN.out; omega, HB.out⟩
end Go.Proofs.YtgojodldnodjpaaDoor
