/- Spans: the reference's normal lists. -/
import Derived.Test.YtofjbplojhlnoaaSK
namespace Go.Proofs.Ytofjbplojhlnoaa
open Go.RowKit

theorem OwnS.alloc {w : World} {b : Nat} {v : Value} {L : List Sp} (h : OwnS w b v L) (o : Obj) : OwnS (w.alloc o) b v L := World.ownsRow.alloc h o
theorem OwnS.nil (w : World) : OwnS (w.alloc (.cells #[] 32)) w.heap.size (.slice (some ⟨w.heap.size, 0, none⟩) 0 0) [] :=
  ⟨rfl, .inr ⟨w.heap.size, 0, #[], rfl, Nat.le_refl _, heap_alloc_new w _, Nat.le_refl _, Nat.zero_le _, rfl, rfl⟩⟩
theorem below_ownS {B b : Nat} {a w w' : World} {v : Value} {L : List Sp} (h : Below B a w) (hg : w.grownBy w' v.ownBlock) (ho : OwnS w b v L) (hb : B ≤ b) (hs : B ≤ w.heap.size) : Below B a w' :=
  h.grown hg hs fun k hk => by have := (World.ownsRow.lt ho k hk).1; omega
/-- append of a span -/
theorem app_sp {ops : Array Oper} {rest : List Oper} {o : Oper} {a : Act} {Q : Exit → Act → World → Prop} {w : World} (hgd : o.guard = none) (s x : Operand)
    (ho : o.op = .call { callee := .builtin .append, args := #[s, x], argTypes := #[22, 22] })
    (base g : Nat) (v : Value) (L : List Sp) (p : Sp) (hs : a.eval s = v) (hx : a.eval x = .slice (some ⟨g, 0, none⟩) 1 1) (hown : OwnS w base v L) (hsrc : BoxS w g p)
    (hlen : L.length ≤ 1000000) (hbase : base ≤ w.heap.size)
    (h : ∀ A' c' w', OwnS w' base (.slice A' (L.length + 1) c') (L ++ [p]) → w.grownBy w' v.ownBlock → wpList Try.prog ops Q rest (a.put o.dst (.slice A' (L.length + 1) c')) w') : wpList Try.prog ops Q (o :: rest) a w := by
  obtain ⟨i, hi, hz0, hz1, hz2⟩ := info_parts info_sp
  refine wpList_append_own w hgd s x 22 ho base 32 i (.agg #[.int .i64 0, .int .i64 0]) 2 16 Try.underlying22 hi hz0 hz1 hz2 rfl (by omega) v L.length (L.flatMap C2) hs hown ⟨g, 0, none⟩ 1 1 (C2 p)
    hx rfl (fun j u hu => ?_) (by simp [C2, Value.oneCell']) (by unfold maxLen; omega) (by omega) hbase ?_
  · rw [Go.WideShapes.add_plain, Nat.zero_add]
    match j, hu with
    | 0, hu => simp [C2] at hu; subst hu; exact hsrc.c0
    | 1, hu => simp [C2] at hu; subst hu; exact hsrc.c1
  · intro v' w' h1 h2 _
    have h1' : OwnS w' base v' (L ++ [p]) := by
      unfold OwnS
      rw [List.length_append, List.flatMap_append]
      simpa using h1
    obtain ⟨A', c', e, _⟩ := h1'.sl
    rw [List.length_append] at e
    have e' : v' = .slice A' (L.length + 1) c' := e
    subst e'
    exact h A' c' w' h1' h2
/-- the last span's end is moved -/
theorem OwnS.last {w : World} {base : Nat} {A : Option Addr} {n cap : Nat} {L : List Sp} {p : Sp} (h : OwnS w base (.slice A n cap) (L ++ [p])) (x : Int) :
    ∃ g, A = some ⟨g, 0, none⟩ ∧ base ≤ g ∧ g < w.heap.size ∧ w.cell? ⟨g, L.length * 2, none⟩ = some (.int .i64 p.1) ∧ w.cell? ⟨g, L.length * 2 + 1, none⟩ = some (.int .i64 p.2) ∧ w.frozen? ⟨g, L.length * 2 + 1, none⟩ = false ∧
      OwnS (w.setCell ⟨g, L.length * 2 + 1, none⟩ (.int .i64 x)) base (.slice A n cap) (L ++ [(p.1, x)]) := by
  have hcs : ∀ g, (Value.slice A n cap).ownBlock = some g → ∀ j u, ((L ++ [p]).flatMap C2)[j]? = some u → w.cell? ((⟨g, 0, none⟩ : Addr).add j) = some u := fun g hg => World.ownsRow.cells h hg
  rcases h.2 with ⟨e, h0⟩ | ⟨g, cap', cur, e, hb, hh, h1, h2, h3, h4⟩
  · simp at h0
  · injection e with e1 e2 e3
    subst e1 e3
    have hlt := (Array.getElem?_eq_some_iff.1 hh).1
    have hat : (L ++ [p])[L.length]? = some p := by simp
    obtain ⟨q1, q2⟩ := c2_at _ _ _ hat
    have c1 := hcs g rfl _ _ q1
    have c2 := hcs g rfl _ _ q2
    rw [Go.WideShapes.add_plain, Nat.zero_add] at c1 c2
    refine ⟨g, rfl, hb, hlt, c1, c2, frozen_of_row w g _ _ _ hh, ?_⟩
    have hn : n = L.length + 1 := by rw [e2]; simp
    have hset : ((L ++ [p]).flatMap C2).set (L.length * 2 + 1) (.int .i64 x) = (L ++ [(p.1, x)]).flatMap C2 := by
      rw [List.flatMap_append, List.flatMap_append, List.set_append_right _ _ (by rw [c2_len]; omega), c2_len, show L.length * 2 + 1 - L.length * 2 = 1 by omega]
      rfl
    refine ⟨by rw [c2_len], .inr ⟨g, cap, cur.setIfInBounds (L.length * 2 + 1) (.int .i64 x), by rw [hn]; simp, hb, ?_, by simpa using h1, h2, by simpa using h3, ?_⟩⟩
    · rw [setCell_eq_setRow w g _ _ _ _ _ hh]
      exact setRow_heap w g _ _ _ _ hh
    · rw [show (L ++ [(p.1, x)]).length = (L ++ [p]).length by simp, Array.toList_setIfInBounds, List.take_set, h4, hset]

set_option maxRecDepth 100000 in
set_option maxHeartbeats 1600000 in
theorem rspans_all (l : List Bool) (hl : l.length = 1024) (g0 : Nat) (w : World) (hr : Rw w g0 4 (l.map Value.bool)) :
    Calls Try.prog 28 #[.slice (some ⟨g0, 0, none⟩) 1024 1024] w fun e w' => ∃ A' c', e = .returned (.slice A' (rn 0 l).length c') ∧ SL w' (fun i => w.heap.size ≤ i ∧ i < w'.heap.size) (rn 0 l) A' c' ∧ Below w.heap.size w w' := by
  have HR := Lib.hid hr
  have HLL := Lib.hid hl
  have hg0 := hr.lt
  have H0 := Lib.hid (OwnS.nil w)
  clear hr hl
  go_enter Try.func28, Try.ntmps28
  go_wp2_with fail
  go_loopw [3, 4] (fun y x wr => ∃ (m : Nat) (R : List Sp) (A : Option Addr) (c : Nat), y = .slice A R.length c ∧ x = .int .i64 m ∧ m ≤ 1024 ∧ Hid (R = rn 0 (l.take m)) ∧ Hid (OwnS wr w.heap.size (.slice A R.length c) R) ∧ Below w.heap.size w wr) (fun _ x _ => 1024 - (intOf x).toNat)
  case atStart => exact ⟨0, [], _, _, rfl, rfl, by omega, Lib.hid rfl, H0, (Below.refl _ _).alloc (Nat.le_refl _) _⟩
  case round =>
    obtain ⟨m, R, A, c, rfl, rfl, hm, HE, HO, hb⟩ := hrel
    have HB := Lib.hid hb
    have hz := hb.size
    have hRl : R.length ≤ 1024 := by
      rw [HE.out]
      have := rn_len (l.take m) 0
      rw [List.length_take] at this
      omega
    by_cases hlt : m < 1024
    · obtain ⟨b, hbm⟩ : ∃ b, l[m]? = some b := ⟨_, List.getElem?_eq_getElem (by rw [HLL.out]; exact hlt)⟩
      have hc : wr.cell? ⟨g0, m, none⟩ = some (.bool b) := (HR.out.keep (hb.block g0 hg0)).cell (by simp [hbm])
      have HT := Lib.hid (show l.take (m + 1) = l.take m ++ [b] by
        obtain ⟨h1, h2⟩ := List.getElem?_eq_some_iff.1 hbm
        rw [List.take_succ_eq_append_getElem h1, h2])
      have HTL := Lib.hid (show (l.take m).length = m by rw [List.length_take, HLL.out]; omega)
      clear hbm hb
      cases b with
      | false =>
        go_wp2_with fail
        go_roundw
        case rel => exact ⟨m + 1, R, A, c, rfl, by go_num, by omega, Lib.hid (by rw [HT.out, rn_snoc_false, HE.out]), HO, HB.out⟩
        case measure => simp [intOf]; omega
      | true =>
        have HA := Lib.hid (show rn 0 (l.take (m + 1)) = ad R m by rw [HT.out, rn_snoc_true, HTL.out, HE.out]; congr 1; omega)
        rcases List.eq_nil_or_concat R with hR | ⟨R0, q, hR⟩
        · subst hR
          have HOA := Lib.hid (HO.out.alloc (.cells #[.int .i64 m, .int .i64 ((m : Int) + 1)] 32))
          have HSRC := Lib.hid (show BoxS (wr.alloc (.cells #[.int .i64 m, .int .i64 ((m : Int) + 1)] 32)) wr.heap.size ((m : Int), (m : Int) + 1) from heap_alloc_new wr _)
          go_wp2_with (at_builtin; refine app_sp rfl (.tmp 39) (.tmp 44) rfl w.heap.size wr.heap.size _ [] ((m : Int), (m : Int) + 1) rfl rfl HOA.out HSRC.out (by simp) (by simp; omega) ?_; intro A5 c5 w5 ho5 hg5; have HO5 := Lib.hid ho5; have HB5 := Lib.hid (below_ownS (HB.out.alloc hz _) hg5 HOA.out (Nat.le_refl _) (by simp; omega)); clear ho5 hg5)
          go_roundw
          case rel => exact ⟨m + 1, [((m : Int), (m : Int) + 1)], A5, c5, rfl, by go_num, by omega, Lib.hid (by rw [HA.out]; rfl), HO5, HB5.out⟩
          case measure => simp [intOf]; omega
        · have hR' : R = R0 ++ [q] := by rw [hR]; simp
          subst hR'
          clear hR
          obtain ⟨q1, q2⟩ := q
          simp only [List.length_append, List.length_singleton] at HO hRl ⊢
          obtain ⟨g, rfl, hbg, hgl, k1, k2, kf, hno⟩ := HO.out.last ((m : Int) + 1)
          have HNO := Lib.hid hno
          have i1 : (0 : Int) ≤ R0.length := by omega
          simp only at k1 k2
          clear hno
          by_cases hq : q2 = m
          · subst hq
            go_wp2_with fail
            go_roundw
            case rel =>
              refine ⟨m + 1, R0 ++ [(q1, (m : Int) + 1)], some ⟨g, 0, none⟩, c, by simp, by go_num, by omega, Lib.hid (by rw [HA.out]; simp [ad]), Lib.hid (by have := HNO.out; simpa using this), HB.out.setCell hbg _⟩
            case measure => simp [intOf]; omega
          · have hq' : (q2 == (m : Int)) = false := by simpa using hq
            have HOA := Lib.hid (HO.out.alloc (.cells #[.int .i64 m, .int .i64 ((m : Int) + 1)] 32))
            have HSRC := Lib.hid (show BoxS (wr.alloc (.cells #[.int .i64 m, .int .i64 ((m : Int) + 1)] 32)) wr.heap.size ((m : Int), (m : Int) + 1) from heap_alloc_new wr _)
            have hl1 : (R0 ++ [(q1, q2)]).length = R0.length + 1 := by simp
            have HL1 := Lib.hid hl1
            clear hl1
            go_wp2_with (at_builtin; refine app_sp rfl (.tmp 39) (.tmp 44) rfl w.heap.size wr.heap.size _ (R0 ++ [(q1, q2)]) ((m : Int), (m : Int) + 1) rfl rfl HOA.out HSRC.out (by rw [HL1.out]; omega) (by simp; omega) ?_; intro A5 c5 w5 ho5 hg5; have HO5 := Lib.hid ho5; have HB5 := Lib.hid (below_ownS (HB.out.alloc hz _) hg5 HOA.out (Nat.le_refl _) (by simp; omega)); clear ho5 hg5)
            go_roundw
            case rel => exact ⟨m + 1, R0 ++ [(q1, q2)] ++ [((m : Int), (m : Int) + 1)], A5, c5, by simp, by go_num, by omega, Lib.hid (by rw [HA.out]; simp [ad, hq]), Lib.hid (by have := HO5.out; simpa using this), HB5.out⟩
            case measure => simp [intOf]; omega
    · obtain rfl : m = 1024 := by omega
      clear hb
      have HE2 := Lib.hid (show R = rn 0 l by rw [HE.out, List.take_of_length_le (by rw [HLL.out]; omega)])
      go_wp2_with fail
      go_ret
      obtain ⟨A', c', e, hs⟩ := HO.out.sl
      injection e with e1 _ e2
      subst e1 e2
      rw [← HE2.out]
      exact ⟨A, c, rfl, hs, HB.out⟩
end Go.Proofs.Ytofjbplojhlnoaa
