/- Keys: collide: operations on steps. -/
import Derived.Test.YteicbdjennjcdaaDoorW33
import Derived.Lib.ConvBytes
namespace Go.Proofs.YteicbdjennjcdaaDoor
set_option maxRecDepth 100000
open Go.RowKit

theorem str_dec (s t : ByteArray) : (s.toList == t.toList) = decide (s = t) := by
  rw [ByteArray.toList_eq, ByteArray.toList_eq]
  by_cases h : s = t
  · subst h; simp
  · rw [decide_eq_false h]
    have : ¬ s.data.toList = t.data.toList := fun e => h (by
      obtain ⟨a⟩ := s
      obtain ⟨b⟩ := t
      congr 1
      exact Array.toList_inj.1 e)
    simpa using this
theorem ev_eqS {o : Oper} {a : Act} {w : World} (x y : Operand) (s t : ByteArray) (r : Bool) (hr : decide (s = t) = r) (ho : o.op = .binOp .eql 9 x y 9) (hx : a.eval x = .string s) (hy : a.eval y = .string t) :
    (execOp a.eval o).run Tryd.prog w = .ok (.value (.bool r)) w := by
  subst hr
  unfold execOp
  simp only [ho, hx, hy]
  go_simp
  exact str_dec s t
theorem ev_neqS {o : Oper} {a : Act} {w : World} (x y : Operand) (s t : ByteArray) (r : Bool) (hr : (!decide (s = t)) = r) (ho : o.op = .binOp .neq 9 x y 9) (hx : a.eval x = .string s) (hy : a.eval y = .string t) :
    (execOp a.eval o).run Tryd.prog w = .ok (.value (.bool r)) w := by
  subst hr
  unfold execOp
  simp only [ho, hx, hy]
  go_simp
  rw [str_dec]
theorem ev_indexS {o : Oper} {a : Act} {w : World} (x y : Operand) (b len cap K : Nat) (ho : o.op = .indexAddr 46 x y) (hx : a.eval x = .slice (some ⟨b, 0, none⟩) len cap) (hy : a.eval y = .int .i64 K) (hk : K < len) :
    (execOp a.eval o).run Tryd.prog w = .ok (.value (.pointer (some ⟨b, K * 2, none⟩))) w := by
  have b1 : (K : Int) < len := by omega
  have b2 : (0 : Int) ≤ K := by omega
  unfold execOp
  simp only [ho, hx, hy]
  go_simp
theorem ev_fieldS0 {o : Oper} {a : Act} {w : World} (x : Operand) (b ofs : Nat) (s : ByteArray) (ho : o.op = .fieldAddr 78 x 0) (hx : a.eval x = .pointer (some ⟨b, ofs, none⟩)) (_hc : w.cell? ⟨b, ofs, none⟩ = some (.string s)) :
    (execOp a.eval o).run Tryd.prog w = .ok (.value (.pointer (some ⟨b, ofs, none⟩))) w := by
  unfold execOp
  simp only [ho, hx]
  go_simp
theorem ev_fieldS1 {o : Oper} {a : Act} {w : World} (x : Operand) (b ofs : Nat) (s : ByteArray) (ho : o.op = .fieldAddr 78 x 1) (hx : a.eval x = .pointer (some ⟨b, ofs, none⟩)) (_hc : w.cell? ⟨b, ofs, none⟩ = some (.string s)) :
    (execOp a.eval o).run Tryd.prog w = .ok (.value (.pointer (some ⟨b, ofs + 1, none⟩))) w := by
  unfold execOp
  simp only [ho, hx]
  go_simp
theorem ev_loadStr {o : Oper} {a : Act} {w : World} (x : Operand) (b ofs : Nat) (s : ByteArray) (ho : o.op = .load 9 x) (hx : a.eval x = .pointer (some ⟨b, ofs, none⟩)) (hc : w.cell? ⟨b, ofs, none⟩ = some (.string s)) :
    (execOp a.eval o).run Tryd.prog w = .ok (.value (.string s)) w := by
  unfold execOp
  simp only [ho, hx]
  go_simp
theorem ev_lenS {o : Oper} {a : Act} {w : World} (x : Operand) (A : Option Addr) (n cap : Nat) (ho : o.op = .call { callee := .builtin .len, args := #[x], argTypes := #[46] }) (hx : a.eval x = .slice A n cap) :
    (execOp a.eval o).run Tryd.prog w = .ok (.value (.int .i64 n)) w := by
  unfold execOp
  simp [ho, hx, resolve, invoke, builtin]
  go_simp
/-- a string made bytes: new memory -/
theorem wp_convB {o : Oper} {a : Act} {w : World} {K : Act → World → Prop} {Q : Exit → Act → World → Prop} (n : Nat) (x : Operand) (s : ByteArray) (ho : o.op = .convert 9 62 x) (hd : o.dst = some n) (hx : a.eval x = .string s) (hs : s.size ≤ 100000)
    (hK : ∀ b c w', Byt w' (· < w'.heap.size) s.data.toList (some ⟨b, 0, none⟩) c → w.heap.size ≤ b → Below w.heap.size w w' → K (a.put (some n) (.slice (some ⟨b, 0, none⟩) s.size c)) w') : Oper.wp Tryd.prog o a w K Q := by
  have hrun := Lib.run_convert_string_bytes (P := Tryd.prog) w 9 62 5 s Tryd.underlying9 Tryd.underlying62 Tryd.underlying5
  have hb := byt_conv w s (by simp only [maxLen]; omega)
  have hbl := below_conv w s
  have := hK w.heap.size _ _ (hb.keep fun i hi => ⟨by
    have h1 : w.heap.size + 1 ≤ (Lib.bytesWorld w 5 s).heap.size := by simp [Lib.bytesWorld, World.freeze]
    omega, rfl⟩) (Nat.le_refl _) hbl
  unfold Oper.wp
  simp [execOp, ho, hx, hrun, Result.andThen]
  show K (a.put o.dst _) _
  rw [hd]
  exact this

theorem bax (x : List UInt8) : (ByteArray.mk x.toArray).data.toList = x := by simp
theorem bax_inj {x y : List UInt8} (h : x ≠ y) : ByteArray.mk x.toArray ≠ ByteArray.mk y.toArray := fun e => h (by rw [← bax x, e, bax])

set_option maxHeartbeats 12800000 in
theorem collide_all (L M : List Step) (A : Option Addr) (ca : Nat) (B : Option Addr) (cb : Nat) (w : World) (hlm : L.length = M.length) (hL : L.length ≤ 100000) (hl : StL w (· < w.heap.size) L A ca) (hm : StL w (· < w.heap.size) M B cb) (hlen : ∀ a ∈ L, a.2.length ≤ 1000) (hlen' : ∀ a ∈ M, a.2.length ≤ 1000) (htag : ∀ a ∈ L, a.1.size ≤ 1000) (hk : KR w Kt)
    (hc : Coll L M) : Calls Tryd.prog 25 #[.slice A L.length ca, .slice B M.length cb] w fun e w' => e = .returned (.bool true) ∧ Below w.heap.size w w' := by
  obtain ⟨K, hK⟩ : ∃ K, L.length = K := ⟨_, rfl⟩
  have hca := hl.1
  have hcb := hm.1
  rw [← hlm, hK] at hcb ⊢
  rw [hK] at hca hL
  have HL := Lib.hid hl
  have HM := Lib.hid hm
  have HK := Lib.hid hK
  have HKM := Lib.hid (show M.length = K by omega)
  have HLE := Lib.hid hlen
  have HLE' := Lib.hid hlen'
  have HTG := Lib.hid htag
  have HKR := Lib.hid hk
  have hlt0 := hk.lt
  have HC := Lib.hid (show ∃ (j : Nat) (a b : Step), 0 ≤ j ∧ L[j]? = some a ∧ M[j]? = some b ∧ Clash a b by obtain ⟨j, a, b, h⟩ := hc; exact ⟨j, a, b, Nat.zero_le _, h⟩)
  clear hl hm hlm hK hlen hlen' htag hk hc
  go_enter Tryd.func25, Tryd.ntmps25
  go_wp2_with fail
  go_loopw [8] (fun y wr => ∃ k : Nat, y = .int .i64 k ∧ k ≤ K ∧ Hid (Below w.heap.size w wr) ∧ Hid (∃ (j : Nat) (a b : Step), k ≤ j ∧ L[j]? = some a ∧ M[j]? = some b ∧ Clash a b)) (fun y _ => K - (intOf y).toNat)
  case atStart => exact ⟨0, rfl, by omega, Lib.hid (Below.refl _ _), HC⟩
  case round =>
    obtain ⟨k, rfl, hk, HB, HQ⟩ := hrel
    have hlt : k < K := by
      obtain ⟨j, a, b, h1, h2, _⟩ := HQ.out
      have := (List.getElem?_eq_some_iff.1 h2).1
      rw [HK.out] at this
      omega
    have b1 : (k : Int) < K := by omega
    obtain ⟨⟨t, x⟩, ha⟩ : ∃ a, L[k]? = some a := ⟨_, List.getElem?_eq_getElem (by rw [HK.out]; exact hlt)⟩
    obtain ⟨⟨u, y⟩, hb⟩ : ∃ b, M[k]? = some b := ⟨_, List.getElem?_eq_getElem (by rw [HKM.out]; exact hlt)⟩
    obtain ⟨b1', rfl, hS1, hc1⟩ := HL.out.2.2 (by rw [HK.out]; omega)
    obtain ⟨b2', rfl, hS2, hc2⟩ := HM.out.2.2 (by rw [HKM.out]; omega)
    obtain ⟨p1, p2⟩ := hc1 k _ ha
    obtain ⟨q1, q2⟩ := hc2 k _ hb
    simp only at p1 p2 q1 q2
    rw [Nat.mul_comm] at p1 p2 q1 q2
    have HCE := Lib.hid (show ∀ ww, Below w.heap.size w ww → ww.cell? ⟨b1', k * 2, none⟩ = some (.string t) ∧ ww.cell? ⟨b1', k * 2 + 1, none⟩ = some (.string ⟨x.toArray⟩) ∧ ww.cell? ⟨b2', k * 2, none⟩ = some (.string u) ∧ ww.cell? ⟨b2', k * 2 + 1, none⟩ = some (.string ⟨y.toArray⟩) from fun ww h =>
      ⟨(World.cell?_of_block (a := ⟨b1', k * 2, none⟩) (h.block b1' hS1)).trans p1, (World.cell?_of_block (a := ⟨b1', k * 2 + 1, none⟩) (h.block b1' hS1)).trans p2, (World.cell?_of_block (a := ⟨b2', k * 2, none⟩) (h.block b2' hS2)).trans q1, (World.cell?_of_block (a := ⟨b2', k * 2 + 1, none⟩) (h.block b2' hS2)).trans q2⟩)
    have HX := Lib.hid (show x.length ≤ 1000 from HLE.out _ (List.mem_of_getElem? ha))
    have HY := Lib.hid (show y.length ≤ 1000 from HLE'.out _ (List.mem_of_getElem? hb))
    have HT := Lib.hid (show t.size ≤ 1000 from HTG.out _ (List.mem_of_getElem? ha))
    have HNX := Lib.hid (show ¬ Clash (t, x) (u, y) → ∃ (j : Nat) (a b : Step), k + 1 ≤ j ∧ L[j]? = some a ∧ M[j]? = some b ∧ Clash a b from fun hn => by
      obtain ⟨j, a, b, h1, h2, h3, h4⟩ := HQ.out
      by_cases e : j = k
      · subst e
        rw [ha] at h2
        rw [hb] at h3
        injection h2 with h2
        injection h3 with h3
        subst h2 h3
        exact absurd h4 hn
      · exact ⟨j, a, b, by omega, h2, h3, h4⟩)
    clear ha hb p1 p2 q1 q2 hc1 hc2 HQ
    go_wp2_with fail
    refine wp_region_noPanic ?_
    have h0 : Below w.heap.size w wr.drew := HB.out.drew
    refine wp_region_held_drew (S := fun ww => Below w.heap.size w ww) (by kernel_rfl) h0 (fun _ => ?_)
    generalize wr.drew = V0 at h0 ⊢
    refine tk_move 0 11 (.tmp 5) (.int .i64 k) rfl (by kernel_rfl) (by kernel_rfl) (by kernel_rfl) (fun _ _ _ _ h => h) rfl rfl rfl rfl h0 ?_
    simp only [Act.put, List.setIfInBounds_toArray, List.set_cons_zero, List.set_cons_succ]
    refine tk_move 1 12 (.tmp 1) (.slice (some ⟨b2', 0, none⟩) K cb) rfl (by kernel_rfl) (by kernel_rfl) (by kernel_rfl) (fun _ _ _ _ h => h) rfl rfl rfl rfl h0 ?_
    simp only [Act.put, List.setIfInBounds_toArray, List.set_cons_zero, List.set_cons_succ]
    refine tk_val 2 13 (.int .i64 K) rfl (by kernel_rfl) (by kernel_rfl) (by kernel_rfl) (fun _ _ _ _ h => h) rfl rfl (fun _ _ => ev_lenS (.tmp 12) _ K cb rfl rfl) h0 ?_
    simp only [Act.put, List.setIfInBounds_toArray, List.set_cons_zero, List.set_cons_succ]
    refine tk_val 3 14 (.bool true) rfl (by kernel_rfl) (by kernel_rfl) (by kernel_rfl) (fun _ _ _ _ h => h) rfl rfl (fun _ _ => ev_lssI (.tmp 11) (.tmp 13) k K true (decide_eq_true b1) rfl rfl rfl) h0 ?_
    simp only [Act.put, List.setIfInBounds_toArray, List.set_cons_zero, List.set_cons_succ]
    refine tk_move 4 15 (.tmp 14) (.bool true) rfl (by kernel_rfl) (by kernel_rfl) (by kernel_rfl) (fun _ _ _ _ h => h) rfl rfl rfl rfl h0 ?_
    simp only [Act.put, List.setIfInBounds_toArray, List.set_cons_zero, List.set_cons_succ]
    refine tkw_val 5 16 (.slice (some ⟨b1', 0, none⟩) K ca) rfl (by kernel_rfl) (by kernel_rfl) (by kernel_rfl) (fun _ _ _ _ h => h) (by kernel_rfl) rfl (fun _ _ => ev_move (.tmp 0) (.slice (some ⟨b1', 0, none⟩) K ca) rfl rfl) h0 ?_
    simp only [Act.put, List.setIfInBounds_toArray, List.set_cons_zero, List.set_cons_succ]
    refine tkw_val 6 17 (.int .i64 k) rfl (by kernel_rfl) (by kernel_rfl) (by kernel_rfl) (fun _ _ _ _ h => h) (by kernel_rfl) rfl (fun _ _ => ev_move (.tmp 5) (.int .i64 k) rfl rfl) h0 ?_
    simp only [Act.put, List.setIfInBounds_toArray, List.set_cons_zero, List.set_cons_succ]
    refine tkw_val 7 18 (.pointer (some ⟨b1', k * 2, none⟩)) rfl (by kernel_rfl) (by kernel_rfl) (by kernel_rfl) (fun _ _ _ _ h => h) (by kernel_rfl) rfl (fun _ _ => ev_indexS (.tmp 16) (.tmp 17) b1' K ca k rfl rfl rfl hlt) h0 ?_
    simp only [Act.put, List.setIfInBounds_toArray, List.set_cons_zero, List.set_cons_succ]
    refine tkw_val 8 19 (.pointer (some ⟨b1', k * 2, none⟩)) rfl (by kernel_rfl) (by kernel_rfl) (by kernel_rfl) (fun _ _ _ _ h => h) (by kernel_rfl) rfl (fun ww h => ev_fieldS0 (.tmp 18) b1' (k * 2) _ rfl rfl (HCE.out ww h).1) h0 ?_
    simp only [Act.put, List.setIfInBounds_toArray, List.set_cons_zero, List.set_cons_succ]
    refine tkw_val 9 20 (.string t) rfl (by kernel_rfl) (by kernel_rfl) (by kernel_rfl) (fun _ _ _ _ h => h) (by kernel_rfl) rfl (fun ww h => ev_loadStr (.tmp 19) b1' (k * 2) _ rfl rfl (HCE.out ww h).1) h0 ?_
    simp only [Act.put, List.setIfInBounds_toArray, List.set_cons_zero, List.set_cons_succ]
    by_cases ht : t = ByteArray.empty
    case pos =>
      refine tkw_val 10 21 (.bool false) rfl (by kernel_rfl) (by kernel_rfl) (by kernel_rfl) (fun _ _ _ _ h => h) (by kernel_rfl) rfl (fun _ _ => ev_neqS (.tmp 20) _ t ByteArray.empty false (by rw [decide_eq_true ht]; rfl) rfl rfl rfl) h0 ?_
      simp only [Act.put, List.setIfInBounds_toArray, List.set_cons_zero, List.set_cons_succ]
      refine tk_val 11 22 (.bool false) rfl (by kernel_rfl) (by kernel_rfl) (by kernel_rfl) (fun _ _ _ _ h => h) rfl rfl (fun _ _ => ev_pickT (.tmp 15) (.tmp 21) _ _ rfl rfl rfl) h0 ?_
      simp only [Act.put, List.setIfInBounds_toArray, List.set_cons_zero, List.set_cons_succ]
      refine tk_move 12 23 (.tmp 22) (.bool false) rfl (by kernel_rfl) (by kernel_rfl) (by kernel_rfl) (fun _ _ _ _ h => h) rfl rfl rfl rfl h0 ?_
      simp only [Act.put, List.setIfInBounds_toArray, List.set_cons_zero, List.set_cons_succ]
      refine tkw_skip 13 24 rfl (by kernel_rfl) (by kernel_rfl) (by kernel_rfl) (fun _ _ _ _ h => h) (by kernel_rfl) rfl h0 ?_
      simp only [Act.put, List.setIfInBounds_toArray, List.set_cons_zero, List.set_cons_succ]
      refine tkw_skip 14 25 rfl (by kernel_rfl) (by kernel_rfl) (by kernel_rfl) (fun _ _ _ _ h => h) (by kernel_rfl) rfl h0 ?_
      simp only [Act.put, List.setIfInBounds_toArray, List.set_cons_zero, List.set_cons_succ]
      refine tkw_skip 15 26 rfl (by kernel_rfl) (by kernel_rfl) (by kernel_rfl) (fun _ _ _ _ h => h) (by kernel_rfl) rfl h0 ?_
      simp only [Act.put, List.setIfInBounds_toArray, List.set_cons_zero, List.set_cons_succ]
      refine tkw_skip 16 27 rfl (by kernel_rfl) (by kernel_rfl) (by kernel_rfl) (fun _ _ _ _ h => h) (by kernel_rfl) rfl h0 ?_
      simp only [Act.put, List.setIfInBounds_toArray, List.set_cons_zero, List.set_cons_succ]
      refine tkw_skip 17 28 rfl (by kernel_rfl) (by kernel_rfl) (by kernel_rfl) (fun _ _ _ _ h => h) (by kernel_rfl) rfl h0 ?_
      simp only [Act.put, List.setIfInBounds_toArray, List.set_cons_zero, List.set_cons_succ]
      refine tkw_skip 18 29 rfl (by kernel_rfl) (by kernel_rfl) (by kernel_rfl) (fun _ _ _ _ h => h) (by kernel_rfl) rfl h0 ?_
      simp only [Act.put, List.setIfInBounds_toArray, List.set_cons_zero, List.set_cons_succ]
      refine tkw_skip 19 30 rfl (by kernel_rfl) (by kernel_rfl) (by kernel_rfl) (fun _ _ _ _ h => h) (by kernel_rfl) rfl h0 ?_
      simp only [Act.put, List.setIfInBounds_toArray, List.set_cons_zero, List.set_cons_succ]
      refine tkw_skip 20 31 rfl (by kernel_rfl) (by kernel_rfl) (by kernel_rfl) (fun _ _ _ _ h => h) (by kernel_rfl) rfl h0 ?_
      simp only [Act.put, List.setIfInBounds_toArray, List.set_cons_zero, List.set_cons_succ]
      refine tkw_skip 21 32 rfl (by kernel_rfl) (by kernel_rfl) (by kernel_rfl) (fun _ _ _ _ h => h) (by kernel_rfl) rfl h0 ?_
      simp only [Act.put, List.setIfInBounds_toArray, List.set_cons_zero, List.set_cons_succ]
      refine tkw_skip 22 33 rfl (by kernel_rfl) (by kernel_rfl) (by kernel_rfl) (fun _ _ _ _ h => h) (by kernel_rfl) rfl h0 ?_
      simp only [Act.put, List.setIfInBounds_toArray, List.set_cons_zero, List.set_cons_succ]
      refine tkw_skip 23 34 rfl (by kernel_rfl) (by kernel_rfl) (by kernel_rfl) (fun _ _ _ _ h => h) (by kernel_rfl) rfl h0 ?_
      simp only [Act.put, List.setIfInBounds_toArray, List.set_cons_zero, List.set_cons_succ]
      refine tk_val 24 35 (.bool false) rfl (by kernel_rfl) (by kernel_rfl) (by kernel_rfl) (fun _ _ _ _ h => h) rfl rfl (fun _ _ => ev_pickF (.tmp 23) (.tmp 34) _ _ rfl rfl rfl) h0 ?_
      simp only [Act.put, List.setIfInBounds_toArray, List.set_cons_zero, List.set_cons_succ]
      refine tk_move 25 36 (.tmp 35) (.bool false) rfl (by kernel_rfl) (by kernel_rfl) (by kernel_rfl) (fun _ _ _ _ h => h) rfl rfl rfl rfl h0 ?_
      simp only [Act.put, List.setIfInBounds_toArray, List.set_cons_zero, List.set_cons_succ]
      refine tkw_skip 26 37 rfl (by kernel_rfl) (by kernel_rfl) (by kernel_rfl) (fun _ _ _ _ h => h) (by kernel_rfl) rfl h0 ?_
      simp only [Act.put, List.setIfInBounds_toArray, List.set_cons_zero, List.set_cons_succ]
      refine tkw_skip 27 38 rfl (by kernel_rfl) (by kernel_rfl) (by kernel_rfl) (fun _ _ _ _ h => h) (by kernel_rfl) rfl h0 ?_
      simp only [Act.put, List.setIfInBounds_toArray, List.set_cons_zero, List.set_cons_succ]
      refine tkw_skip 28 39 rfl (by kernel_rfl) (by kernel_rfl) (by kernel_rfl) (fun _ _ _ _ h => h) (by kernel_rfl) rfl h0 ?_
      simp only [Act.put, List.setIfInBounds_toArray, List.set_cons_zero, List.set_cons_succ]
      refine tkw_skip 29 40 rfl (by kernel_rfl) (by kernel_rfl) (by kernel_rfl) (fun _ _ _ _ h => h) (by kernel_rfl) rfl h0 ?_
      simp only [Act.put, List.setIfInBounds_toArray, List.set_cons_zero, List.set_cons_succ]
      refine tkw_skip 30 41 rfl (by kernel_rfl) (by kernel_rfl) (by kernel_rfl) (fun _ _ _ _ h => h) (by kernel_rfl) rfl h0 ?_
      simp only [Act.put, List.setIfInBounds_toArray, List.set_cons_zero, List.set_cons_succ]
      refine tkw_skip 31 42 rfl (by kernel_rfl) (by kernel_rfl) (by kernel_rfl) (fun _ _ _ _ h => h) (by kernel_rfl) rfl h0 ?_
      simp only [Act.put, List.setIfInBounds_toArray, List.set_cons_zero, List.set_cons_succ]
      refine tkw_skip 32 43 rfl (by kernel_rfl) (by kernel_rfl) (by kernel_rfl) (fun _ _ _ _ h => h) (by kernel_rfl) rfl h0 ?_
      simp only [Act.put, List.setIfInBounds_toArray, List.set_cons_zero, List.set_cons_succ]
      refine tkw_skip 33 44 rfl (by kernel_rfl) (by kernel_rfl) (by kernel_rfl) (fun _ _ _ _ h => h) (by kernel_rfl) rfl h0 ?_
      simp only [Act.put, List.setIfInBounds_toArray, List.set_cons_zero, List.set_cons_succ]
      refine tkw_skip 34 45 rfl (by kernel_rfl) (by kernel_rfl) (by kernel_rfl) (fun _ _ _ _ h => h) (by kernel_rfl) rfl h0 ?_
      simp only [Act.put, List.setIfInBounds_toArray, List.set_cons_zero, List.set_cons_succ]
      refine tkw_skip 35 46 rfl (by kernel_rfl) (by kernel_rfl) (by kernel_rfl) (fun _ _ _ _ h => h) (by kernel_rfl) rfl h0 ?_
      simp only [Act.put, List.setIfInBounds_toArray, List.set_cons_zero, List.set_cons_succ]
      refine tkw_skip 36 47 rfl (by kernel_rfl) (by kernel_rfl) (by kernel_rfl) (fun _ _ _ _ h => h) (by kernel_rfl) rfl h0 ?_
      simp only [Act.put, List.setIfInBounds_toArray, List.set_cons_zero, List.set_cons_succ]
      refine tk_val 37 48 (.bool false) rfl (by kernel_rfl) (by kernel_rfl) (by kernel_rfl) (fun _ _ _ _ h => h) rfl rfl (fun _ _ => ev_pickF (.tmp 36) (.tmp 47) _ _ rfl rfl rfl) h0 ?_
      simp only [Act.put, List.setIfInBounds_toArray, List.set_cons_zero, List.set_cons_succ]
      refine tk_move 38 49 (.tmp 48) (.bool false) rfl (by kernel_rfl) (by kernel_rfl) (by kernel_rfl) (fun _ _ _ _ h => h) rfl rfl rfl rfl h0 ?_
      simp only [Act.put, List.setIfInBounds_toArray, List.set_cons_zero, List.set_cons_succ]
      refine tkw_skip 39 50 rfl (by kernel_rfl) (by kernel_rfl) (by kernel_rfl) (fun _ _ _ _ h => h) (by kernel_rfl) rfl h0 ?_
      simp only [Act.put, List.setIfInBounds_toArray, List.set_cons_zero, List.set_cons_succ]
      refine tkw_skip 40 51 rfl (by kernel_rfl) (by kernel_rfl) (by kernel_rfl) (fun _ _ _ _ h => h) (by kernel_rfl) rfl h0 ?_
      simp only [Act.put, List.setIfInBounds_toArray, List.set_cons_zero, List.set_cons_succ]
      refine tkw_skip 41 52 rfl (by kernel_rfl) (by kernel_rfl) (by kernel_rfl) (fun _ _ _ _ h => h) (by kernel_rfl) rfl h0 ?_
      simp only [Act.put, List.setIfInBounds_toArray, List.set_cons_zero, List.set_cons_succ]
      refine tkw_skip 42 53 rfl (by kernel_rfl) (by kernel_rfl) (by kernel_rfl) (fun _ _ _ _ h => h) (by kernel_rfl) rfl h0 ?_
      simp only [Act.put, List.setIfInBounds_toArray, List.set_cons_zero, List.set_cons_succ]
      refine tkw_skip 43 54 rfl (by kernel_rfl) (by kernel_rfl) (by kernel_rfl) (fun _ _ _ _ h => h) (by kernel_rfl) rfl h0 ?_
      simp only [Act.put, List.setIfInBounds_toArray, List.set_cons_zero, List.set_cons_succ]
      refine tkw_skip 44 55 rfl (by kernel_rfl) (by kernel_rfl) (by kernel_rfl) (fun _ _ _ _ h => h) (by kernel_rfl) rfl h0 ?_
      simp only [Act.put, List.setIfInBounds_toArray, List.set_cons_zero, List.set_cons_succ]
      refine tkw_skip 45 56 rfl (by kernel_rfl) (by kernel_rfl) (by kernel_rfl) (fun _ _ _ _ h => h) (by kernel_rfl) rfl h0 ?_
      simp only [Act.put, List.setIfInBounds_toArray, List.set_cons_zero, List.set_cons_succ]
      refine tkw_skip 46 57 rfl (by kernel_rfl) (by kernel_rfl) (by kernel_rfl) (fun _ _ _ _ h => h) (by kernel_rfl) rfl h0 ?_
      simp only [Act.put, List.setIfInBounds_toArray, List.set_cons_zero, List.set_cons_succ]
      refine tkw_skip 47 58 rfl (by kernel_rfl) (by kernel_rfl) (by kernel_rfl) (fun _ _ _ _ h => h) (by kernel_rfl) rfl h0 ?_
      simp only [Act.put, List.setIfInBounds_toArray, List.set_cons_zero, List.set_cons_succ]
      refine tkw_skip 48 59 rfl (by kernel_rfl) (by kernel_rfl) (by kernel_rfl) (fun _ _ _ _ h => h) (by kernel_rfl) rfl h0 ?_
      simp only [Act.put, List.setIfInBounds_toArray, List.set_cons_zero, List.set_cons_succ]
      refine tkw_skip 49 60 rfl (by kernel_rfl) (by kernel_rfl) (by kernel_rfl) (fun _ _ _ _ h => h) (by kernel_rfl) rfl h0 ?_
      simp only [Act.put, List.setIfInBounds_toArray, List.set_cons_zero, List.set_cons_succ]
      refine tkw_skip 50 61 rfl (by kernel_rfl) (by kernel_rfl) (by kernel_rfl) (fun _ _ _ _ h => h) (by kernel_rfl) rfl h0 ?_
      simp only [Act.put, List.setIfInBounds_toArray, List.set_cons_zero, List.set_cons_succ]
      refine tkw_skip 51 62 rfl (by kernel_rfl) (by kernel_rfl) (by kernel_rfl) (fun _ _ _ _ h => h) (by kernel_rfl) rfl h0 ?_
      simp only [Act.put, List.setIfInBounds_toArray, List.set_cons_zero, List.set_cons_succ]
      refine tkw_skip 52 63 rfl (by kernel_rfl) (by kernel_rfl) (by kernel_rfl) (fun _ _ _ _ h => h) (by kernel_rfl) rfl h0 ?_
      simp only [Act.put, List.setIfInBounds_toArray, List.set_cons_zero, List.set_cons_succ]
      refine tkw_skip 53 64 rfl (by kernel_rfl) (by kernel_rfl) (by kernel_rfl) (fun _ _ _ _ h => h) (by kernel_rfl) rfl h0 ?_
      simp only [Act.put, List.setIfInBounds_toArray, List.set_cons_zero, List.set_cons_succ]
      refine tkw_skip 54 65 rfl (by kernel_rfl) (by kernel_rfl) (by kernel_rfl) (fun _ _ _ _ h => h) (by kernel_rfl) rfl h0 ?_
      simp only [Act.put, List.setIfInBounds_toArray, List.set_cons_zero, List.set_cons_succ]
      refine tkw_skip 55 66 rfl (by kernel_rfl) (by kernel_rfl) (by kernel_rfl) (fun _ _ _ _ h => h) (by kernel_rfl) rfl h0 ?_
      simp only [Act.put, List.setIfInBounds_toArray, List.set_cons_zero, List.set_cons_succ]
      refine tkw_skip 56 67 rfl (by kernel_rfl) (by kernel_rfl) (by kernel_rfl) (fun _ _ _ _ h => h) (by kernel_rfl) rfl h0 ?_
      simp only [Act.put, List.setIfInBounds_toArray, List.set_cons_zero, List.set_cons_succ]
      refine tkw_skip 57 68 rfl (by kernel_rfl) (by kernel_rfl) (by kernel_rfl) (fun _ _ _ _ h => h) (by kernel_rfl) rfl h0 ?_
      simp only [Act.put, List.setIfInBounds_toArray, List.set_cons_zero, List.set_cons_succ]
      refine tkw_skip 58 69 rfl (by kernel_rfl) (by kernel_rfl) (by kernel_rfl) (fun _ _ _ _ h => h) (by kernel_rfl) rfl h0 ?_
      simp only [Act.put, List.setIfInBounds_toArray, List.set_cons_zero, List.set_cons_succ]
      refine tkw_skip 59 70 rfl (by kernel_rfl) (by kernel_rfl) (by kernel_rfl) (fun _ _ _ _ h => h) (by kernel_rfl) rfl h0 ?_
      simp only [Act.put, List.setIfInBounds_toArray, List.set_cons_zero, List.set_cons_succ]
      refine tkw_skip 60 71 rfl (by kernel_rfl) (by kernel_rfl) (by kernel_rfl) (fun _ _ _ _ h => h) (by kernel_rfl) rfl h0 ?_
      simp only [Act.put, List.setIfInBounds_toArray, List.set_cons_zero, List.set_cons_succ]
      refine tkw_skip 61 72 rfl (by kernel_rfl) (by kernel_rfl) (by kernel_rfl) (fun _ _ _ _ h => h) (by kernel_rfl) rfl h0 ?_
      simp only [Act.put, List.setIfInBounds_toArray, List.set_cons_zero, List.set_cons_succ]
      refine tkw_skip 62 73 rfl (by kernel_rfl) (by kernel_rfl) (by kernel_rfl) (fun _ _ _ _ h => h) (by kernel_rfl) rfl h0 ?_
      simp only [Act.put, List.setIfInBounds_toArray, List.set_cons_zero, List.set_cons_succ]
      refine tkw_skip 63 74 rfl (by kernel_rfl) (by kernel_rfl) (by kernel_rfl) (fun _ _ _ _ h => h) (by kernel_rfl) rfl h0 ?_
      simp only [Act.put, List.setIfInBounds_toArray, List.set_cons_zero, List.set_cons_succ]
      refine tk_val 64 75 (.bool false) rfl (by kernel_rfl) (by kernel_rfl) (by kernel_rfl) (fun _ _ _ _ h => h) rfl rfl (fun _ _ => ev_pickF (.tmp 49) (.tmp 74) _ _ rfl rfl rfl) h0 ?_
      simp only [Act.put, List.setIfInBounds_toArray, List.set_cons_zero, List.set_cons_succ]
      refine wpAnyH_done (by kernel_rfl) (NoPanic.normal ?_) _
      have HTE := Lib.hid ht
      clear ht
      have H0 := Lib.hid h0
      have HQ2 := Lib.hid (HNX.out (fun hcl => hcl.1 HTE.out))
      clear h0
      go_wp2_with fail
      go_roundw
      case rel => exact ⟨k + 1, by go_num, by omega, H0, HQ2⟩
      case measure => simp [intOf]; omega
    refine tkw_val 10 21 (.bool true) rfl (by kernel_rfl) (by kernel_rfl) (by kernel_rfl) (fun _ _ _ _ h => h) (by kernel_rfl) rfl (fun _ _ => ev_neqS (.tmp 20) _ t ByteArray.empty true (by rw [decide_eq_false ht]; rfl) rfl rfl rfl) h0 ?_
    simp only [Act.put, List.setIfInBounds_toArray, List.set_cons_zero, List.set_cons_succ]
    refine tk_val 11 22 (.bool true) rfl (by kernel_rfl) (by kernel_rfl) (by kernel_rfl) (fun _ _ _ _ h => h) rfl rfl (fun _ _ => ev_pickT (.tmp 15) (.tmp 21) _ _ rfl rfl rfl) h0 ?_
    simp only [Act.put, List.setIfInBounds_toArray, List.set_cons_zero, List.set_cons_succ]
    refine tk_move 12 23 (.tmp 22) (.bool true) rfl (by kernel_rfl) (by kernel_rfl) (by kernel_rfl) (fun _ _ _ _ h => h) rfl rfl rfl rfl h0 ?_
    simp only [Act.put, List.setIfInBounds_toArray, List.set_cons_zero, List.set_cons_succ]
    refine tkw_val 13 24 (.slice (some ⟨b1', 0, none⟩) K ca) rfl (by kernel_rfl) (by kernel_rfl) (by kernel_rfl) (fun _ _ _ _ h => h) (by kernel_rfl) rfl (fun _ _ => ev_move (.tmp 0) (.slice (some ⟨b1', 0, none⟩) K ca) rfl rfl) h0 ?_
    simp only [Act.put, List.setIfInBounds_toArray, List.set_cons_zero, List.set_cons_succ]
    refine tkw_val 14 25 (.int .i64 k) rfl (by kernel_rfl) (by kernel_rfl) (by kernel_rfl) (fun _ _ _ _ h => h) (by kernel_rfl) rfl (fun _ _ => ev_move (.tmp 5) (.int .i64 k) rfl rfl) h0 ?_
    simp only [Act.put, List.setIfInBounds_toArray, List.set_cons_zero, List.set_cons_succ]
    refine tkw_val 15 26 (.pointer (some ⟨b1', k * 2, none⟩)) rfl (by kernel_rfl) (by kernel_rfl) (by kernel_rfl) (fun _ _ _ _ h => h) (by kernel_rfl) rfl (fun _ _ => ev_indexS (.tmp 24) (.tmp 25) b1' K ca k rfl rfl rfl hlt) h0 ?_
    simp only [Act.put, List.setIfInBounds_toArray, List.set_cons_zero, List.set_cons_succ]
    refine tkw_val 16 27 (.pointer (some ⟨b1', k * 2, none⟩)) rfl (by kernel_rfl) (by kernel_rfl) (by kernel_rfl) (fun _ _ _ _ h => h) (by kernel_rfl) rfl (fun ww h => ev_fieldS0 (.tmp 26) b1' (k * 2) _ rfl rfl (HCE.out ww h).1) h0 ?_
    simp only [Act.put, List.setIfInBounds_toArray, List.set_cons_zero, List.set_cons_succ]
    refine tkw_val 17 28 (.string t) rfl (by kernel_rfl) (by kernel_rfl) (by kernel_rfl) (fun _ _ _ _ h => h) (by kernel_rfl) rfl (fun ww h => ev_loadStr (.tmp 27) b1' (k * 2) _ rfl rfl (HCE.out ww h).1) h0 ?_
    simp only [Act.put, List.setIfInBounds_toArray, List.set_cons_zero, List.set_cons_succ]
    refine tkw_val 18 29 (.slice (some ⟨b2', 0, none⟩) K cb) rfl (by kernel_rfl) (by kernel_rfl) (by kernel_rfl) (fun _ _ _ _ h => h) (by kernel_rfl) rfl (fun _ _ => ev_move (.tmp 1) (.slice (some ⟨b2', 0, none⟩) K cb) rfl rfl) h0 ?_
    simp only [Act.put, List.setIfInBounds_toArray, List.set_cons_zero, List.set_cons_succ]
    refine tkw_val 19 30 (.int .i64 k) rfl (by kernel_rfl) (by kernel_rfl) (by kernel_rfl) (fun _ _ _ _ h => h) (by kernel_rfl) rfl (fun _ _ => ev_move (.tmp 5) (.int .i64 k) rfl rfl) h0 ?_
    simp only [Act.put, List.setIfInBounds_toArray, List.set_cons_zero, List.set_cons_succ]
    refine tkw_val 20 31 (.pointer (some ⟨b2', k * 2, none⟩)) rfl (by kernel_rfl) (by kernel_rfl) (by kernel_rfl) (fun _ _ _ _ h => h) (by kernel_rfl) rfl (fun _ _ => ev_indexS (.tmp 29) (.tmp 30) b2' K cb k rfl rfl rfl hlt) h0 ?_
    simp only [Act.put, List.setIfInBounds_toArray, List.set_cons_zero, List.set_cons_succ]
    refine tkw_val 21 32 (.pointer (some ⟨b2', k * 2, none⟩)) rfl (by kernel_rfl) (by kernel_rfl) (by kernel_rfl) (fun _ _ _ _ h => h) (by kernel_rfl) rfl (fun ww h => ev_fieldS0 (.tmp 31) b2' (k * 2) _ rfl rfl (HCE.out ww h).2.2.1) h0 ?_
    simp only [Act.put, List.setIfInBounds_toArray, List.set_cons_zero, List.set_cons_succ]
    refine tkw_val 22 33 (.string u) rfl (by kernel_rfl) (by kernel_rfl) (by kernel_rfl) (fun _ _ _ _ h => h) (by kernel_rfl) rfl (fun ww h => ev_loadStr (.tmp 32) b2' (k * 2) _ rfl rfl (HCE.out ww h).2.2.1) h0 ?_
    simp only [Act.put, List.setIfInBounds_toArray, List.set_cons_zero, List.set_cons_succ]
    by_cases htu : t = u
    case neg =>
      refine tkw_val 23 34 (.bool false) rfl (by kernel_rfl) (by kernel_rfl) (by kernel_rfl) (fun _ _ _ _ h => h) (by kernel_rfl) rfl (fun _ _ => ev_eqS (.tmp 28) (.tmp 33) t u false (decide_eq_false htu) rfl rfl rfl) h0 ?_
      simp only [Act.put, List.setIfInBounds_toArray, List.set_cons_zero, List.set_cons_succ]
      refine tk_val 24 35 (.bool false) rfl (by kernel_rfl) (by kernel_rfl) (by kernel_rfl) (fun _ _ _ _ h => h) rfl rfl (fun _ _ => ev_pickT (.tmp 23) (.tmp 34) _ _ rfl rfl rfl) h0 ?_
      simp only [Act.put, List.setIfInBounds_toArray, List.set_cons_zero, List.set_cons_succ]
      refine tk_move 25 36 (.tmp 35) (.bool false) rfl (by kernel_rfl) (by kernel_rfl) (by kernel_rfl) (fun _ _ _ _ h => h) rfl rfl rfl rfl h0 ?_
      simp only [Act.put, List.setIfInBounds_toArray, List.set_cons_zero, List.set_cons_succ]
      refine tkw_skip 26 37 rfl (by kernel_rfl) (by kernel_rfl) (by kernel_rfl) (fun _ _ _ _ h => h) (by kernel_rfl) rfl h0 ?_
      simp only [Act.put, List.setIfInBounds_toArray, List.set_cons_zero, List.set_cons_succ]
      refine tkw_skip 27 38 rfl (by kernel_rfl) (by kernel_rfl) (by kernel_rfl) (fun _ _ _ _ h => h) (by kernel_rfl) rfl h0 ?_
      simp only [Act.put, List.setIfInBounds_toArray, List.set_cons_zero, List.set_cons_succ]
      refine tkw_skip 28 39 rfl (by kernel_rfl) (by kernel_rfl) (by kernel_rfl) (fun _ _ _ _ h => h) (by kernel_rfl) rfl h0 ?_
      simp only [Act.put, List.setIfInBounds_toArray, List.set_cons_zero, List.set_cons_succ]
      refine tkw_skip 29 40 rfl (by kernel_rfl) (by kernel_rfl) (by kernel_rfl) (fun _ _ _ _ h => h) (by kernel_rfl) rfl h0 ?_
      simp only [Act.put, List.setIfInBounds_toArray, List.set_cons_zero, List.set_cons_succ]
      refine tkw_skip 30 41 rfl (by kernel_rfl) (by kernel_rfl) (by kernel_rfl) (fun _ _ _ _ h => h) (by kernel_rfl) rfl h0 ?_
      simp only [Act.put, List.setIfInBounds_toArray, List.set_cons_zero, List.set_cons_succ]
      refine tkw_skip 31 42 rfl (by kernel_rfl) (by kernel_rfl) (by kernel_rfl) (fun _ _ _ _ h => h) (by kernel_rfl) rfl h0 ?_
      simp only [Act.put, List.setIfInBounds_toArray, List.set_cons_zero, List.set_cons_succ]
      refine tkw_skip 32 43 rfl (by kernel_rfl) (by kernel_rfl) (by kernel_rfl) (fun _ _ _ _ h => h) (by kernel_rfl) rfl h0 ?_
      simp only [Act.put, List.setIfInBounds_toArray, List.set_cons_zero, List.set_cons_succ]
      refine tkw_skip 33 44 rfl (by kernel_rfl) (by kernel_rfl) (by kernel_rfl) (fun _ _ _ _ h => h) (by kernel_rfl) rfl h0 ?_
      simp only [Act.put, List.setIfInBounds_toArray, List.set_cons_zero, List.set_cons_succ]
      refine tkw_skip 34 45 rfl (by kernel_rfl) (by kernel_rfl) (by kernel_rfl) (fun _ _ _ _ h => h) (by kernel_rfl) rfl h0 ?_
      simp only [Act.put, List.setIfInBounds_toArray, List.set_cons_zero, List.set_cons_succ]
      refine tkw_skip 35 46 rfl (by kernel_rfl) (by kernel_rfl) (by kernel_rfl) (fun _ _ _ _ h => h) (by kernel_rfl) rfl h0 ?_
      simp only [Act.put, List.setIfInBounds_toArray, List.set_cons_zero, List.set_cons_succ]
      refine tkw_skip 36 47 rfl (by kernel_rfl) (by kernel_rfl) (by kernel_rfl) (fun _ _ _ _ h => h) (by kernel_rfl) rfl h0 ?_
      simp only [Act.put, List.setIfInBounds_toArray, List.set_cons_zero, List.set_cons_succ]
      refine tk_val 37 48 (.bool false) rfl (by kernel_rfl) (by kernel_rfl) (by kernel_rfl) (fun _ _ _ _ h => h) rfl rfl (fun _ _ => ev_pickF (.tmp 36) (.tmp 47) _ _ rfl rfl rfl) h0 ?_
      simp only [Act.put, List.setIfInBounds_toArray, List.set_cons_zero, List.set_cons_succ]
      refine tk_move 38 49 (.tmp 48) (.bool false) rfl (by kernel_rfl) (by kernel_rfl) (by kernel_rfl) (fun _ _ _ _ h => h) rfl rfl rfl rfl h0 ?_
      simp only [Act.put, List.setIfInBounds_toArray, List.set_cons_zero, List.set_cons_succ]
      refine tkw_skip 39 50 rfl (by kernel_rfl) (by kernel_rfl) (by kernel_rfl) (fun _ _ _ _ h => h) (by kernel_rfl) rfl h0 ?_
      simp only [Act.put, List.setIfInBounds_toArray, List.set_cons_zero, List.set_cons_succ]
      refine tkw_skip 40 51 rfl (by kernel_rfl) (by kernel_rfl) (by kernel_rfl) (fun _ _ _ _ h => h) (by kernel_rfl) rfl h0 ?_
      simp only [Act.put, List.setIfInBounds_toArray, List.set_cons_zero, List.set_cons_succ]
      refine tkw_skip 41 52 rfl (by kernel_rfl) (by kernel_rfl) (by kernel_rfl) (fun _ _ _ _ h => h) (by kernel_rfl) rfl h0 ?_
      simp only [Act.put, List.setIfInBounds_toArray, List.set_cons_zero, List.set_cons_succ]
      refine tkw_skip 42 53 rfl (by kernel_rfl) (by kernel_rfl) (by kernel_rfl) (fun _ _ _ _ h => h) (by kernel_rfl) rfl h0 ?_
      simp only [Act.put, List.setIfInBounds_toArray, List.set_cons_zero, List.set_cons_succ]
      refine tkw_skip 43 54 rfl (by kernel_rfl) (by kernel_rfl) (by kernel_rfl) (fun _ _ _ _ h => h) (by kernel_rfl) rfl h0 ?_
      simp only [Act.put, List.setIfInBounds_toArray, List.set_cons_zero, List.set_cons_succ]
      refine tkw_skip 44 55 rfl (by kernel_rfl) (by kernel_rfl) (by kernel_rfl) (fun _ _ _ _ h => h) (by kernel_rfl) rfl h0 ?_
      simp only [Act.put, List.setIfInBounds_toArray, List.set_cons_zero, List.set_cons_succ]
      refine tkw_skip 45 56 rfl (by kernel_rfl) (by kernel_rfl) (by kernel_rfl) (fun _ _ _ _ h => h) (by kernel_rfl) rfl h0 ?_
      simp only [Act.put, List.setIfInBounds_toArray, List.set_cons_zero, List.set_cons_succ]
      refine tkw_skip 46 57 rfl (by kernel_rfl) (by kernel_rfl) (by kernel_rfl) (fun _ _ _ _ h => h) (by kernel_rfl) rfl h0 ?_
      simp only [Act.put, List.setIfInBounds_toArray, List.set_cons_zero, List.set_cons_succ]
      refine tkw_skip 47 58 rfl (by kernel_rfl) (by kernel_rfl) (by kernel_rfl) (fun _ _ _ _ h => h) (by kernel_rfl) rfl h0 ?_
      simp only [Act.put, List.setIfInBounds_toArray, List.set_cons_zero, List.set_cons_succ]
      refine tkw_skip 48 59 rfl (by kernel_rfl) (by kernel_rfl) (by kernel_rfl) (fun _ _ _ _ h => h) (by kernel_rfl) rfl h0 ?_
      simp only [Act.put, List.setIfInBounds_toArray, List.set_cons_zero, List.set_cons_succ]
      refine tkw_skip 49 60 rfl (by kernel_rfl) (by kernel_rfl) (by kernel_rfl) (fun _ _ _ _ h => h) (by kernel_rfl) rfl h0 ?_
      simp only [Act.put, List.setIfInBounds_toArray, List.set_cons_zero, List.set_cons_succ]
      refine tkw_skip 50 61 rfl (by kernel_rfl) (by kernel_rfl) (by kernel_rfl) (fun _ _ _ _ h => h) (by kernel_rfl) rfl h0 ?_
      simp only [Act.put, List.setIfInBounds_toArray, List.set_cons_zero, List.set_cons_succ]
      refine tkw_skip 51 62 rfl (by kernel_rfl) (by kernel_rfl) (by kernel_rfl) (fun _ _ _ _ h => h) (by kernel_rfl) rfl h0 ?_
      simp only [Act.put, List.setIfInBounds_toArray, List.set_cons_zero, List.set_cons_succ]
      refine tkw_skip 52 63 rfl (by kernel_rfl) (by kernel_rfl) (by kernel_rfl) (fun _ _ _ _ h => h) (by kernel_rfl) rfl h0 ?_
      simp only [Act.put, List.setIfInBounds_toArray, List.set_cons_zero, List.set_cons_succ]
      refine tkw_skip 53 64 rfl (by kernel_rfl) (by kernel_rfl) (by kernel_rfl) (fun _ _ _ _ h => h) (by kernel_rfl) rfl h0 ?_
      simp only [Act.put, List.setIfInBounds_toArray, List.set_cons_zero, List.set_cons_succ]
      refine tkw_skip 54 65 rfl (by kernel_rfl) (by kernel_rfl) (by kernel_rfl) (fun _ _ _ _ h => h) (by kernel_rfl) rfl h0 ?_
      simp only [Act.put, List.setIfInBounds_toArray, List.set_cons_zero, List.set_cons_succ]
      refine tkw_skip 55 66 rfl (by kernel_rfl) (by kernel_rfl) (by kernel_rfl) (fun _ _ _ _ h => h) (by kernel_rfl) rfl h0 ?_
      simp only [Act.put, List.setIfInBounds_toArray, List.set_cons_zero, List.set_cons_succ]
      refine tkw_skip 56 67 rfl (by kernel_rfl) (by kernel_rfl) (by kernel_rfl) (fun _ _ _ _ h => h) (by kernel_rfl) rfl h0 ?_
      simp only [Act.put, List.setIfInBounds_toArray, List.set_cons_zero, List.set_cons_succ]
      refine tkw_skip 57 68 rfl (by kernel_rfl) (by kernel_rfl) (by kernel_rfl) (fun _ _ _ _ h => h) (by kernel_rfl) rfl h0 ?_
      simp only [Act.put, List.setIfInBounds_toArray, List.set_cons_zero, List.set_cons_succ]
      refine tkw_skip 58 69 rfl (by kernel_rfl) (by kernel_rfl) (by kernel_rfl) (fun _ _ _ _ h => h) (by kernel_rfl) rfl h0 ?_
      simp only [Act.put, List.setIfInBounds_toArray, List.set_cons_zero, List.set_cons_succ]
      refine tkw_skip 59 70 rfl (by kernel_rfl) (by kernel_rfl) (by kernel_rfl) (fun _ _ _ _ h => h) (by kernel_rfl) rfl h0 ?_
      simp only [Act.put, List.setIfInBounds_toArray, List.set_cons_zero, List.set_cons_succ]
      refine tkw_skip 60 71 rfl (by kernel_rfl) (by kernel_rfl) (by kernel_rfl) (fun _ _ _ _ h => h) (by kernel_rfl) rfl h0 ?_
      simp only [Act.put, List.setIfInBounds_toArray, List.set_cons_zero, List.set_cons_succ]
      refine tkw_skip 61 72 rfl (by kernel_rfl) (by kernel_rfl) (by kernel_rfl) (fun _ _ _ _ h => h) (by kernel_rfl) rfl h0 ?_
      simp only [Act.put, List.setIfInBounds_toArray, List.set_cons_zero, List.set_cons_succ]
      refine tkw_skip 62 73 rfl (by kernel_rfl) (by kernel_rfl) (by kernel_rfl) (fun _ _ _ _ h => h) (by kernel_rfl) rfl h0 ?_
      simp only [Act.put, List.setIfInBounds_toArray, List.set_cons_zero, List.set_cons_succ]
      refine tkw_skip 63 74 rfl (by kernel_rfl) (by kernel_rfl) (by kernel_rfl) (fun _ _ _ _ h => h) (by kernel_rfl) rfl h0 ?_
      simp only [Act.put, List.setIfInBounds_toArray, List.set_cons_zero, List.set_cons_succ]
      refine tk_val 64 75 (.bool false) rfl (by kernel_rfl) (by kernel_rfl) (by kernel_rfl) (fun _ _ _ _ h => h) rfl rfl (fun _ _ => ev_pickF (.tmp 49) (.tmp 74) _ _ rfl rfl rfl) h0 ?_
      simp only [Act.put, List.setIfInBounds_toArray, List.set_cons_zero, List.set_cons_succ]
      refine wpAnyH_done (by kernel_rfl) (NoPanic.normal ?_) _
      have HTU := Lib.hid htu
      clear ht htu
      have H0 := Lib.hid h0
      have HQ2 := Lib.hid (HNX.out (fun hcl => HTU.out hcl.2.1))
      clear h0
      go_wp2_with fail
      go_roundw
      case rel => exact ⟨k + 1, by go_num, by omega, H0, HQ2⟩
      case measure => simp [intOf]; omega
    refine tkw_val 23 34 (.bool true) rfl (by kernel_rfl) (by kernel_rfl) (by kernel_rfl) (fun _ _ _ _ h => h) (by kernel_rfl) rfl (fun _ _ => ev_eqS (.tmp 28) (.tmp 33) t u true (decide_eq_true htu) rfl rfl rfl) h0 ?_
    simp only [Act.put, List.setIfInBounds_toArray, List.set_cons_zero, List.set_cons_succ]
    refine tk_val 24 35 (.bool true) rfl (by kernel_rfl) (by kernel_rfl) (by kernel_rfl) (fun _ _ _ _ h => h) rfl rfl (fun _ _ => ev_pickT (.tmp 23) (.tmp 34) _ _ rfl rfl rfl) h0 ?_
    simp only [Act.put, List.setIfInBounds_toArray, List.set_cons_zero, List.set_cons_succ]
    refine tk_move 25 36 (.tmp 35) (.bool true) rfl (by kernel_rfl) (by kernel_rfl) (by kernel_rfl) (fun _ _ _ _ h => h) rfl rfl rfl rfl h0 ?_
    simp only [Act.put, List.setIfInBounds_toArray, List.set_cons_zero, List.set_cons_succ]
    refine tkw_val 26 37 (.slice (some ⟨b1', 0, none⟩) K ca) rfl (by kernel_rfl) (by kernel_rfl) (by kernel_rfl) (fun _ _ _ _ h => h) (by kernel_rfl) rfl (fun _ _ => ev_move (.tmp 0) (.slice (some ⟨b1', 0, none⟩) K ca) rfl rfl) h0 ?_
    simp only [Act.put, List.setIfInBounds_toArray, List.set_cons_zero, List.set_cons_succ]
    refine tkw_val 27 38 (.int .i64 k) rfl (by kernel_rfl) (by kernel_rfl) (by kernel_rfl) (fun _ _ _ _ h => h) (by kernel_rfl) rfl (fun _ _ => ev_move (.tmp 5) (.int .i64 k) rfl rfl) h0 ?_
    simp only [Act.put, List.setIfInBounds_toArray, List.set_cons_zero, List.set_cons_succ]
    refine tkw_val 28 39 (.pointer (some ⟨b1', k * 2, none⟩)) rfl (by kernel_rfl) (by kernel_rfl) (by kernel_rfl) (fun _ _ _ _ h => h) (by kernel_rfl) rfl (fun _ _ => ev_indexS (.tmp 37) (.tmp 38) b1' K ca k rfl rfl rfl hlt) h0 ?_
    simp only [Act.put, List.setIfInBounds_toArray, List.set_cons_zero, List.set_cons_succ]
    refine tkw_val 29 40 (.pointer (some ⟨b1', k * 2 + 1, none⟩)) rfl (by kernel_rfl) (by kernel_rfl) (by kernel_rfl) (fun _ _ _ _ h => h) (by kernel_rfl) rfl (fun ww h => ev_fieldS1 (.tmp 39) b1' (k * 2) _ rfl rfl (HCE.out ww h).1) h0 ?_
    simp only [Act.put, List.setIfInBounds_toArray, List.set_cons_zero, List.set_cons_succ]
    refine tkw_val 30 41 (.string ⟨x.toArray⟩) rfl (by kernel_rfl) (by kernel_rfl) (by kernel_rfl) (fun _ _ _ _ h => h) (by kernel_rfl) rfl (fun ww h => ev_loadStr (.tmp 40) b1' (k * 2 + 1) _ rfl rfl (HCE.out ww h).2.1) h0 ?_
    simp only [Act.put, List.setIfInBounds_toArray, List.set_cons_zero, List.set_cons_succ]
    refine tkw_val 31 42 (.slice (some ⟨b2', 0, none⟩) K cb) rfl (by kernel_rfl) (by kernel_rfl) (by kernel_rfl) (fun _ _ _ _ h => h) (by kernel_rfl) rfl (fun _ _ => ev_move (.tmp 1) (.slice (some ⟨b2', 0, none⟩) K cb) rfl rfl) h0 ?_
    simp only [Act.put, List.setIfInBounds_toArray, List.set_cons_zero, List.set_cons_succ]
    refine tkw_val 32 43 (.int .i64 k) rfl (by kernel_rfl) (by kernel_rfl) (by kernel_rfl) (fun _ _ _ _ h => h) (by kernel_rfl) rfl (fun _ _ => ev_move (.tmp 5) (.int .i64 k) rfl rfl) h0 ?_
    simp only [Act.put, List.setIfInBounds_toArray, List.set_cons_zero, List.set_cons_succ]
    refine tkw_val 33 44 (.pointer (some ⟨b2', k * 2, none⟩)) rfl (by kernel_rfl) (by kernel_rfl) (by kernel_rfl) (fun _ _ _ _ h => h) (by kernel_rfl) rfl (fun _ _ => ev_indexS (.tmp 42) (.tmp 43) b2' K cb k rfl rfl rfl hlt) h0 ?_
    simp only [Act.put, List.setIfInBounds_toArray, List.set_cons_zero, List.set_cons_succ]
    refine tkw_val 34 45 (.pointer (some ⟨b2', k * 2 + 1, none⟩)) rfl (by kernel_rfl) (by kernel_rfl) (by kernel_rfl) (fun _ _ _ _ h => h) (by kernel_rfl) rfl (fun ww h => ev_fieldS1 (.tmp 44) b2' (k * 2) _ rfl rfl (HCE.out ww h).2.2.1) h0 ?_
    simp only [Act.put, List.setIfInBounds_toArray, List.set_cons_zero, List.set_cons_succ]
    refine tkw_val 35 46 (.string ⟨y.toArray⟩) rfl (by kernel_rfl) (by kernel_rfl) (by kernel_rfl) (fun _ _ _ _ h => h) (by kernel_rfl) rfl (fun ww h => ev_loadStr (.tmp 45) b2' (k * 2 + 1) _ rfl rfl (HCE.out ww h).2.2.2) h0 ?_
    simp only [Act.put, List.setIfInBounds_toArray, List.set_cons_zero, List.set_cons_succ]
    by_cases hxy : x = y
    case pos =>
      refine tkw_val 36 47 (.bool false) rfl (by kernel_rfl) (by kernel_rfl) (by kernel_rfl) (fun _ _ _ _ h => h) (by kernel_rfl) rfl (fun _ _ => ev_neqS (.tmp 41) (.tmp 46) _ _ false (by rw [hxy, decide_eq_true rfl]; rfl) rfl rfl rfl) h0 ?_
      simp only [Act.put, List.setIfInBounds_toArray, List.set_cons_zero, List.set_cons_succ]
      refine tk_val 37 48 (.bool false) rfl (by kernel_rfl) (by kernel_rfl) (by kernel_rfl) (fun _ _ _ _ h => h) rfl rfl (fun _ _ => ev_pickT (.tmp 36) (.tmp 47) _ _ rfl rfl rfl) h0 ?_
      simp only [Act.put, List.setIfInBounds_toArray, List.set_cons_zero, List.set_cons_succ]
      refine tk_move 38 49 (.tmp 48) (.bool false) rfl (by kernel_rfl) (by kernel_rfl) (by kernel_rfl) (fun _ _ _ _ h => h) rfl rfl rfl rfl h0 ?_
      simp only [Act.put, List.setIfInBounds_toArray, List.set_cons_zero, List.set_cons_succ]
      refine tkw_skip 39 50 rfl (by kernel_rfl) (by kernel_rfl) (by kernel_rfl) (fun _ _ _ _ h => h) (by kernel_rfl) rfl h0 ?_
      simp only [Act.put, List.setIfInBounds_toArray, List.set_cons_zero, List.set_cons_succ]
      refine tkw_skip 40 51 rfl (by kernel_rfl) (by kernel_rfl) (by kernel_rfl) (fun _ _ _ _ h => h) (by kernel_rfl) rfl h0 ?_
      simp only [Act.put, List.setIfInBounds_toArray, List.set_cons_zero, List.set_cons_succ]
      refine tkw_skip 41 52 rfl (by kernel_rfl) (by kernel_rfl) (by kernel_rfl) (fun _ _ _ _ h => h) (by kernel_rfl) rfl h0 ?_
      simp only [Act.put, List.setIfInBounds_toArray, List.set_cons_zero, List.set_cons_succ]
      refine tkw_skip 42 53 rfl (by kernel_rfl) (by kernel_rfl) (by kernel_rfl) (fun _ _ _ _ h => h) (by kernel_rfl) rfl h0 ?_
      simp only [Act.put, List.setIfInBounds_toArray, List.set_cons_zero, List.set_cons_succ]
      refine tkw_skip 43 54 rfl (by kernel_rfl) (by kernel_rfl) (by kernel_rfl) (fun _ _ _ _ h => h) (by kernel_rfl) rfl h0 ?_
      simp only [Act.put, List.setIfInBounds_toArray, List.set_cons_zero, List.set_cons_succ]
      refine tkw_skip 44 55 rfl (by kernel_rfl) (by kernel_rfl) (by kernel_rfl) (fun _ _ _ _ h => h) (by kernel_rfl) rfl h0 ?_
      simp only [Act.put, List.setIfInBounds_toArray, List.set_cons_zero, List.set_cons_succ]
      refine tkw_skip 45 56 rfl (by kernel_rfl) (by kernel_rfl) (by kernel_rfl) (fun _ _ _ _ h => h) (by kernel_rfl) rfl h0 ?_
      simp only [Act.put, List.setIfInBounds_toArray, List.set_cons_zero, List.set_cons_succ]
      refine tkw_skip 46 57 rfl (by kernel_rfl) (by kernel_rfl) (by kernel_rfl) (fun _ _ _ _ h => h) (by kernel_rfl) rfl h0 ?_
      simp only [Act.put, List.setIfInBounds_toArray, List.set_cons_zero, List.set_cons_succ]
      refine tkw_skip 47 58 rfl (by kernel_rfl) (by kernel_rfl) (by kernel_rfl) (fun _ _ _ _ h => h) (by kernel_rfl) rfl h0 ?_
      simp only [Act.put, List.setIfInBounds_toArray, List.set_cons_zero, List.set_cons_succ]
      refine tkw_skip 48 59 rfl (by kernel_rfl) (by kernel_rfl) (by kernel_rfl) (fun _ _ _ _ h => h) (by kernel_rfl) rfl h0 ?_
      simp only [Act.put, List.setIfInBounds_toArray, List.set_cons_zero, List.set_cons_succ]
      refine tkw_skip 49 60 rfl (by kernel_rfl) (by kernel_rfl) (by kernel_rfl) (fun _ _ _ _ h => h) (by kernel_rfl) rfl h0 ?_
      simp only [Act.put, List.setIfInBounds_toArray, List.set_cons_zero, List.set_cons_succ]
      refine tkw_skip 50 61 rfl (by kernel_rfl) (by kernel_rfl) (by kernel_rfl) (fun _ _ _ _ h => h) (by kernel_rfl) rfl h0 ?_
      simp only [Act.put, List.setIfInBounds_toArray, List.set_cons_zero, List.set_cons_succ]
      refine tkw_skip 51 62 rfl (by kernel_rfl) (by kernel_rfl) (by kernel_rfl) (fun _ _ _ _ h => h) (by kernel_rfl) rfl h0 ?_
      simp only [Act.put, List.setIfInBounds_toArray, List.set_cons_zero, List.set_cons_succ]
      refine tkw_skip 52 63 rfl (by kernel_rfl) (by kernel_rfl) (by kernel_rfl) (fun _ _ _ _ h => h) (by kernel_rfl) rfl h0 ?_
      simp only [Act.put, List.setIfInBounds_toArray, List.set_cons_zero, List.set_cons_succ]
      refine tkw_skip 53 64 rfl (by kernel_rfl) (by kernel_rfl) (by kernel_rfl) (fun _ _ _ _ h => h) (by kernel_rfl) rfl h0 ?_
      simp only [Act.put, List.setIfInBounds_toArray, List.set_cons_zero, List.set_cons_succ]
      refine tkw_skip 54 65 rfl (by kernel_rfl) (by kernel_rfl) (by kernel_rfl) (fun _ _ _ _ h => h) (by kernel_rfl) rfl h0 ?_
      simp only [Act.put, List.setIfInBounds_toArray, List.set_cons_zero, List.set_cons_succ]
      refine tkw_skip 55 66 rfl (by kernel_rfl) (by kernel_rfl) (by kernel_rfl) (fun _ _ _ _ h => h) (by kernel_rfl) rfl h0 ?_
      simp only [Act.put, List.setIfInBounds_toArray, List.set_cons_zero, List.set_cons_succ]
      refine tkw_skip 56 67 rfl (by kernel_rfl) (by kernel_rfl) (by kernel_rfl) (fun _ _ _ _ h => h) (by kernel_rfl) rfl h0 ?_
      simp only [Act.put, List.setIfInBounds_toArray, List.set_cons_zero, List.set_cons_succ]
      refine tkw_skip 57 68 rfl (by kernel_rfl) (by kernel_rfl) (by kernel_rfl) (fun _ _ _ _ h => h) (by kernel_rfl) rfl h0 ?_
      simp only [Act.put, List.setIfInBounds_toArray, List.set_cons_zero, List.set_cons_succ]
      refine tkw_skip 58 69 rfl (by kernel_rfl) (by kernel_rfl) (by kernel_rfl) (fun _ _ _ _ h => h) (by kernel_rfl) rfl h0 ?_
      simp only [Act.put, List.setIfInBounds_toArray, List.set_cons_zero, List.set_cons_succ]
      refine tkw_skip 59 70 rfl (by kernel_rfl) (by kernel_rfl) (by kernel_rfl) (fun _ _ _ _ h => h) (by kernel_rfl) rfl h0 ?_
      simp only [Act.put, List.setIfInBounds_toArray, List.set_cons_zero, List.set_cons_succ]
      refine tkw_skip 60 71 rfl (by kernel_rfl) (by kernel_rfl) (by kernel_rfl) (fun _ _ _ _ h => h) (by kernel_rfl) rfl h0 ?_
      simp only [Act.put, List.setIfInBounds_toArray, List.set_cons_zero, List.set_cons_succ]
      refine tkw_skip 61 72 rfl (by kernel_rfl) (by kernel_rfl) (by kernel_rfl) (fun _ _ _ _ h => h) (by kernel_rfl) rfl h0 ?_
      simp only [Act.put, List.setIfInBounds_toArray, List.set_cons_zero, List.set_cons_succ]
      refine tkw_skip 62 73 rfl (by kernel_rfl) (by kernel_rfl) (by kernel_rfl) (fun _ _ _ _ h => h) (by kernel_rfl) rfl h0 ?_
      simp only [Act.put, List.setIfInBounds_toArray, List.set_cons_zero, List.set_cons_succ]
      refine tkw_skip 63 74 rfl (by kernel_rfl) (by kernel_rfl) (by kernel_rfl) (fun _ _ _ _ h => h) (by kernel_rfl) rfl h0 ?_
      simp only [Act.put, List.setIfInBounds_toArray, List.set_cons_zero, List.set_cons_succ]
      refine tk_val 64 75 (.bool false) rfl (by kernel_rfl) (by kernel_rfl) (by kernel_rfl) (fun _ _ _ _ h => h) rfl rfl (fun _ _ => ev_pickF (.tmp 49) (.tmp 74) _ _ rfl rfl rfl) h0 ?_
      simp only [Act.put, List.setIfInBounds_toArray, List.set_cons_zero, List.set_cons_succ]
      refine wpAnyH_done (by kernel_rfl) (NoPanic.normal ?_) _
      have HXY := Lib.hid hxy
      clear ht htu hxy
      have H0 := Lib.hid h0
      have HQ2 := Lib.hid (HNX.out (fun hcl => hcl.2.2.1 HXY.out))
      clear h0
      go_wp2_with fail
      go_roundw
      case rel => exact ⟨k + 1, by go_num, by omega, H0, HQ2⟩
      case measure => simp [intOf]; omega
    refine tkw_val 36 47 (.bool true) rfl (by kernel_rfl) (by kernel_rfl) (by kernel_rfl) (fun _ _ _ _ h => h) (by kernel_rfl) rfl (fun _ _ => ev_neqS (.tmp 41) (.tmp 46) _ _ true (by rw [decide_eq_false (bax_inj hxy)]; rfl) rfl rfl rfl) h0 ?_
    simp only [Act.put, List.setIfInBounds_toArray, List.set_cons_zero, List.set_cons_succ]
    refine tk_val 37 48 (.bool true) rfl (by kernel_rfl) (by kernel_rfl) (by kernel_rfl) (fun _ _ _ _ h => h) rfl rfl (fun _ _ => ev_pickT (.tmp 36) (.tmp 47) _ _ rfl rfl rfl) h0 ?_
    simp only [Act.put, List.setIfInBounds_toArray, List.set_cons_zero, List.set_cons_succ]
    refine tk_move 38 49 (.tmp 48) (.bool true) rfl (by kernel_rfl) (by kernel_rfl) (by kernel_rfl) (fun _ _ _ _ h => h) rfl rfl rfl rfl h0 ?_
    simp only [Act.put, List.setIfInBounds_toArray, List.set_cons_zero, List.set_cons_succ]
    refine tkw_val 39 50 (.slice (some ⟨b1', 0, none⟩) K ca) rfl (by kernel_rfl) (by kernel_rfl) (by kernel_rfl) (fun _ _ _ _ h => h) (by kernel_rfl) rfl (fun _ _ => ev_move (.tmp 0) (.slice (some ⟨b1', 0, none⟩) K ca) rfl rfl) h0 ?_
    simp only [Act.put, List.setIfInBounds_toArray, List.set_cons_zero, List.set_cons_succ]
    refine tkw_val 40 51 (.int .i64 k) rfl (by kernel_rfl) (by kernel_rfl) (by kernel_rfl) (fun _ _ _ _ h => h) (by kernel_rfl) rfl (fun _ _ => ev_move (.tmp 5) (.int .i64 k) rfl rfl) h0 ?_
    simp only [Act.put, List.setIfInBounds_toArray, List.set_cons_zero, List.set_cons_succ]
    refine tkw_val 41 52 (.pointer (some ⟨b1', k * 2, none⟩)) rfl (by kernel_rfl) (by kernel_rfl) (by kernel_rfl) (fun _ _ _ _ h => h) (by kernel_rfl) rfl (fun _ _ => ev_indexS (.tmp 50) (.tmp 51) b1' K ca k rfl rfl rfl hlt) h0 ?_
    simp only [Act.put, List.setIfInBounds_toArray, List.set_cons_zero, List.set_cons_succ]
    refine tkw_val 42 53 (.pointer (some ⟨b1', k * 2, none⟩)) rfl (by kernel_rfl) (by kernel_rfl) (by kernel_rfl) (fun _ _ _ _ h => h) (by kernel_rfl) rfl (fun ww h => ev_fieldS0 (.tmp 52) b1' (k * 2) _ rfl rfl (HCE.out ww h).1) h0 ?_
    simp only [Act.put, List.setIfInBounds_toArray, List.set_cons_zero, List.set_cons_succ]
    refine tkw_val 43 54 (.string t) rfl (by kernel_rfl) (by kernel_rfl) (by kernel_rfl) (fun _ _ _ _ h => h) (by kernel_rfl) rfl (fun ww h => ev_loadStr (.tmp 53) b1' (k * 2) _ rfl rfl (HCE.out ww h).1) h0 ?_
    simp only [Act.put, List.setIfInBounds_toArray, List.set_cons_zero, List.set_cons_succ]
    refine tkw_val 44 55 (.slice (some ⟨b1', 0, none⟩) K ca) rfl (by kernel_rfl) (by kernel_rfl) (by kernel_rfl) (fun _ _ _ _ h => h) (by kernel_rfl) rfl (fun _ _ => ev_move (.tmp 0) (.slice (some ⟨b1', 0, none⟩) K ca) rfl rfl) h0 ?_
    simp only [Act.put, List.setIfInBounds_toArray, List.set_cons_zero, List.set_cons_succ]
    refine tkw_val 45 56 (.int .i64 k) rfl (by kernel_rfl) (by kernel_rfl) (by kernel_rfl) (fun _ _ _ _ h => h) (by kernel_rfl) rfl (fun _ _ => ev_move (.tmp 5) (.int .i64 k) rfl rfl) h0 ?_
    simp only [Act.put, List.setIfInBounds_toArray, List.set_cons_zero, List.set_cons_succ]
    refine tkw_val 46 57 (.pointer (some ⟨b1', k * 2, none⟩)) rfl (by kernel_rfl) (by kernel_rfl) (by kernel_rfl) (fun _ _ _ _ h => h) (by kernel_rfl) rfl (fun _ _ => ev_indexS (.tmp 55) (.tmp 56) b1' K ca k rfl rfl rfl hlt) h0 ?_
    simp only [Act.put, List.setIfInBounds_toArray, List.set_cons_zero, List.set_cons_succ]
    refine tkw_val 47 58 (.pointer (some ⟨b1', k * 2 + 1, none⟩)) rfl (by kernel_rfl) (by kernel_rfl) (by kernel_rfl) (fun _ _ _ _ h => h) (by kernel_rfl) rfl (fun ww h => ev_fieldS1 (.tmp 57) b1' (k * 2) _ rfl rfl (HCE.out ww h).1) h0 ?_
    simp only [Act.put, List.setIfInBounds_toArray, List.set_cons_zero, List.set_cons_succ]
    refine tkw_val 48 59 (.string ⟨x.toArray⟩) rfl (by kernel_rfl) (by kernel_rfl) (by kernel_rfl) (fun _ _ _ _ h => h) (by kernel_rfl) rfl (fun ww h => ev_loadStr (.tmp 58) b1' (k * 2 + 1) _ rfl rfl (HCE.out ww h).2.1) h0 ?_
    simp only [Act.put, List.setIfInBounds_toArray, List.set_cons_zero, List.set_cons_succ]
    refine tkw_val 51 62 (.slice (some ⟨b2', 0, none⟩) K cb) rfl (by kernel_rfl) (by kernel_rfl) (by kernel_rfl) (fun _ _ _ _ h => h) (by kernel_rfl) rfl (fun _ _ => ev_move (.tmp 1) (.slice (some ⟨b2', 0, none⟩) K cb) rfl rfl) h0 ?_
    simp only [Act.put, List.setIfInBounds_toArray, List.set_cons_zero, List.set_cons_succ]
    refine tkw_val 52 63 (.int .i64 k) rfl (by kernel_rfl) (by kernel_rfl) (by kernel_rfl) (fun _ _ _ _ h => h) (by kernel_rfl) rfl (fun _ _ => ev_move (.tmp 5) (.int .i64 k) rfl rfl) h0 ?_
    simp only [Act.put, List.setIfInBounds_toArray, List.set_cons_zero, List.set_cons_succ]
    refine tkw_val 53 64 (.pointer (some ⟨b2', k * 2, none⟩)) rfl (by kernel_rfl) (by kernel_rfl) (by kernel_rfl) (fun _ _ _ _ h => h) (by kernel_rfl) rfl (fun _ _ => ev_indexS (.tmp 62) (.tmp 63) b2' K cb k rfl rfl rfl hlt) h0 ?_
    simp only [Act.put, List.setIfInBounds_toArray, List.set_cons_zero, List.set_cons_succ]
    refine tkw_val 54 65 (.pointer (some ⟨b2', k * 2, none⟩)) rfl (by kernel_rfl) (by kernel_rfl) (by kernel_rfl) (fun _ _ _ _ h => h) (by kernel_rfl) rfl (fun ww h => ev_fieldS0 (.tmp 64) b2' (k * 2) _ rfl rfl (HCE.out ww h).2.2.1) h0 ?_
    simp only [Act.put, List.setIfInBounds_toArray, List.set_cons_zero, List.set_cons_succ]
    refine tkw_val 55 66 (.string u) rfl (by kernel_rfl) (by kernel_rfl) (by kernel_rfl) (fun _ _ _ _ h => h) (by kernel_rfl) rfl (fun ww h => ev_loadStr (.tmp 65) b2' (k * 2) _ rfl rfl (HCE.out ww h).2.2.1) h0 ?_
    simp only [Act.put, List.setIfInBounds_toArray, List.set_cons_zero, List.set_cons_succ]
    refine tkw_val 56 67 (.slice (some ⟨b2', 0, none⟩) K cb) rfl (by kernel_rfl) (by kernel_rfl) (by kernel_rfl) (fun _ _ _ _ h => h) (by kernel_rfl) rfl (fun _ _ => ev_move (.tmp 1) (.slice (some ⟨b2', 0, none⟩) K cb) rfl rfl) h0 ?_
    simp only [Act.put, List.setIfInBounds_toArray, List.set_cons_zero, List.set_cons_succ]
    refine tkw_val 57 68 (.int .i64 k) rfl (by kernel_rfl) (by kernel_rfl) (by kernel_rfl) (fun _ _ _ _ h => h) (by kernel_rfl) rfl (fun _ _ => ev_move (.tmp 5) (.int .i64 k) rfl rfl) h0 ?_
    simp only [Act.put, List.setIfInBounds_toArray, List.set_cons_zero, List.set_cons_succ]
    refine tkw_val 58 69 (.pointer (some ⟨b2', k * 2, none⟩)) rfl (by kernel_rfl) (by kernel_rfl) (by kernel_rfl) (fun _ _ _ _ h => h) (by kernel_rfl) rfl (fun _ _ => ev_indexS (.tmp 67) (.tmp 68) b2' K cb k rfl rfl rfl hlt) h0 ?_
    simp only [Act.put, List.setIfInBounds_toArray, List.set_cons_zero, List.set_cons_succ]
    refine tkw_val 59 70 (.pointer (some ⟨b2', k * 2 + 1, none⟩)) rfl (by kernel_rfl) (by kernel_rfl) (by kernel_rfl) (fun _ _ _ _ h => h) (by kernel_rfl) rfl (fun ww h => ev_fieldS1 (.tmp 69) b2' (k * 2) _ rfl rfl (HCE.out ww h).2.2.1) h0 ?_
    simp only [Act.put, List.setIfInBounds_toArray, List.set_cons_zero, List.set_cons_succ]
    refine tkw_val 60 71 (.string ⟨y.toArray⟩) rfl (by kernel_rfl) (by kernel_rfl) (by kernel_rfl) (fun _ _ _ _ h => h) (by kernel_rfl) rfl (fun ww h => ev_loadStr (.tmp 70) b2' (k * 2 + 1) _ rfl rfl (HCE.out ww h).2.2.2) h0 ?_
    simp only [Act.put, List.setIfInBounds_toArray, List.set_cons_zero, List.set_cons_succ]
    have HTU := Lib.hid htu
    have HTN := Lib.hid ht
    have HXN := Lib.hid hxy
    clear ht htu hxy
    have STEP := Lib.hid (show ∀ ww w', Below w.heap.size w ww → Below ww.heap.size ww w' → Below w.heap.size w w' from fun ww w' h1 h2 => h1.trans (h2.mono h1.size))
    have CT := Lib.hid (show ∀ (tt : ByteArray) (z : List UInt8) (bb c : Nat) (ww : World), tt.size ≤ 1000 → z.length ≤ 1000 → Below w.heap.size w ww → Byt ww (· < ww.heap.size) z (some ⟨bb, 0, none⟩) c → Calls Tryd.prog 42 #[.string tt, .slice (some ⟨bb, 0, none⟩) (ByteArray.mk z.toArray).size c] ww fun e w' => e = .returned (.agg (U (tagd tt.data.toList z)).toArray) ∧ Below ww.heap.size ww w' from fun tt z bb c ww h1 h2 h3 h4 => by
      have := tagged_all tt z (some ⟨bb, 0, none⟩) c ww (by omega) (by omega) h4 (HKR.out.keep (h3.block 0 hlt0))
      rwa [show (ByteArray.mk z.toArray).size = z.length by simp [ByteArray.size]])
    have HSX := Lib.hid (show (ByteArray.mk x.toArray).size ≤ 100000 by have := HX.out; simp [ByteArray.size]; omega)
    have HSY := Lib.hid (show (ByteArray.mk y.toArray).size ≤ 100000 by have := HY.out; simp [ByteArray.size]; omega)
    obtain ⟨dq, hdq⟩ : ∃ dq, decide (tagd t.data.toList x = tagd u.data.toList y) = dq := ⟨_, rfl⟩
    have HDQ := Lib.hid hdq
    clear hdq
    have HUS := Lib.hid (show u.size ≤ 1000 by rw [← HTU.out]; exact HT.out)
    refine wpAnyH_ready (rs := [49, 61]) (by kernel_rfl) (by simp) ?_
    refine AllReadyH.cons (o := _) rfl (fun K' hK => ?_) (AllReadyH.cons (o := _) rfl (fun K' hK => ?_) AllReadyH.nil)
    · rw [if_pos (show Region.wanted _ _ = true from rfl)]
      refine wp_convB 60 (.tmp 59) (ByteArray.mk x.toArray) rfl rfl rfl HSX.out (fun bx cx V1 hbx hge hbl => ?_)
      rw [bax] at hbx
      have h1 := STEP.out _ _ h0 hbl
      refine hK.out _ _ h1 (fun _ => ?_)
      simp only [Act.put, List.setIfInBounds_toArray, List.set_cons_zero, List.set_cons_succ]
      clear hK hge hbl
      refine wpAnyH_ready (rs := [50, 61]) (by kernel_rfl) (by simp) ?_
      refine AllReadyH.cons (o := _) rfl (fun K' hK => ?_) (AllReadyH.cons (o := _) rfl (fun K' hK => ?_) AllReadyH.nil)
      · rw [if_pos (show Region.wanted _ _ = true from rfl)]
        refine wp_call 42 61 _ _ #[.string t, .slice (some ⟨bx, 0, none⟩) (ByteArray.mk x.toArray).size cx] _ rfl rfl rfl enters_Tagged (CT.out t x bx cx _ HT.out HX.out h1 hbx) (fun e V2 hq => ?_)
        refine ⟨_, hq.1, ?_⟩
        have h2 := STEP.out _ _ h1 hq.2
        refine hK.out _ _ h2 (fun _ => ?_)
        simp only [Act.put, List.setIfInBounds_toArray, List.set_cons_zero, List.set_cons_succ]
        clear hK hq
        refine lone 61 (by kernel_rfl) rfl (fun K' hK => ?_)
        rw [if_pos (show Region.wanted _ _ = true from rfl)]
        refine wp_convB 72 (.tmp 71) (ByteArray.mk y.toArray) rfl rfl rfl HSY.out (fun by_ cy V3 hby hge hbl => ?_)
        rw [bax] at hby
        have h3 := STEP.out _ _ h2 hbl
        refine hK _ _ h3 ?_
        simp only [Act.put, List.setIfInBounds_toArray, List.set_cons_zero, List.set_cons_succ]
        clear hK hge hbl
        refine lone 62 (by kernel_rfl) rfl (fun K' hK => ?_)
        rw [if_pos (show Region.wanted _ _ = true from rfl)]
        refine wp_call 42 73 _ _ #[.string u, .slice (some ⟨by_, 0, none⟩) (ByteArray.mk y.toArray).size cy] _ rfl rfl rfl enters_Tagged (CT.out u y by_ cy _ HUS.out HY.out h3 hby) (fun e V4 hq => ?_)
        refine ⟨_, hq.1, ?_⟩
        have h4 := STEP.out _ _ h3 hq.2
        refine hK _ _ h4 ?_
        simp only [Act.put, List.setIfInBounds_toArray, List.set_cons_zero, List.set_cons_succ]
        clear hK hq
        refine tkw_val 63 74 (.bool dq) rfl (by kernel_rfl) (by kernel_rfl) (by kernel_rfl) (fun _ _ _ _ h => h) (by kernel_rfl) rfl (fun _ _ => ev_eqDq (.tmp 61) (.tmp 73) _ _ dq HDQ.out (tagd_len _ _) (tagd_len _ _) rfl rfl rfl) h4 ?_
        simp only [Act.put, List.setIfInBounds_toArray, List.set_cons_zero, List.set_cons_succ]
        refine tk_val 64 75 (.bool dq) rfl (by kernel_rfl) (by kernel_rfl) (by kernel_rfl) (fun _ _ _ _ h => h) rfl rfl (fun _ _ => ev_pickT (.tmp 49) (.tmp 74) _ _ rfl rfl rfl) h4 ?_
        simp only [Act.put, List.setIfInBounds_toArray, List.set_cons_zero, List.set_cons_succ]
        refine wpAnyH_done (by kernel_rfl) (NoPanic.normal ?_) _
        cases dq with
        | true =>
          have HFIN := Lib.hid h4
          clear h4
          go_wp2_with fail
          go_ret
          exact ⟨rfl, HFIN.out⟩
        | false =>
          have H0 := Lib.hid h4
          have HQ2 := Lib.hid (HNX.out (fun hcl => of_decide_eq_false HDQ.out hcl.2.2.2))
          clear h4
          go_wp2_with fail
          go_roundw
          case rel => exact ⟨k + 1, by go_num, by omega, H0, HQ2⟩
          case measure => simp [intOf]; omega
      · rw [if_pos (show Region.wanted _ _ = true from rfl)]
        refine wp_convB 72 (.tmp 71) (ByteArray.mk y.toArray) rfl rfl rfl HSY.out (fun by_ cy V2 hby hge hbl => ?_)
        rw [bax] at hby
        have h2 := STEP.out _ _ h1 hbl
        have hbx := hbx.keep (w' := V2) (S' := (· < V2.heap.size)) fun j hj => ⟨Nat.lt_of_lt_of_le hj hbl.size, hbl.block j hj⟩
        refine hK.out _ _ h2 (fun _ => ?_)
        simp only [Act.put, List.setIfInBounds_toArray, List.set_cons_zero, List.set_cons_succ]
        clear hK hge hbl
        refine lone 50 (by kernel_rfl) rfl (fun K' hK => ?_)
        rw [if_pos (show Region.wanted _ _ = true from rfl)]
        refine wp_call 42 61 _ _ #[.string t, .slice (some ⟨bx, 0, none⟩) (ByteArray.mk x.toArray).size cx] _ rfl rfl rfl enters_Tagged (CT.out t x bx cx _ HT.out HX.out h2 hbx) (fun e V3 hq => ?_)
        refine ⟨_, hq.1, ?_⟩
        have h3 := STEP.out _ _ h2 hq.2
        have hby := hby.keep (w' := V3) (S' := (· < V3.heap.size)) fun j hj => ⟨Nat.lt_of_lt_of_le hj hq.2.size, hq.2.block j hj⟩
        refine hK _ _ h3 ?_
        simp only [Act.put, List.setIfInBounds_toArray, List.set_cons_zero, List.set_cons_succ]
        clear hK hq
        refine lone 62 (by kernel_rfl) rfl (fun K' hK => ?_)
        rw [if_pos (show Region.wanted _ _ = true from rfl)]
        refine wp_call 42 73 _ _ #[.string u, .slice (some ⟨by_, 0, none⟩) (ByteArray.mk y.toArray).size cy] _ rfl rfl rfl enters_Tagged (CT.out u y by_ cy _ HUS.out HY.out h3 hby) (fun e V4 hq => ?_)
        refine ⟨_, hq.1, ?_⟩
        have h4 := STEP.out _ _ h3 hq.2
        refine hK _ _ h4 ?_
        simp only [Act.put, List.setIfInBounds_toArray, List.set_cons_zero, List.set_cons_succ]
        clear hK hq
        refine tkw_val 63 74 (.bool dq) rfl (by kernel_rfl) (by kernel_rfl) (by kernel_rfl) (fun _ _ _ _ h => h) (by kernel_rfl) rfl (fun _ _ => ev_eqDq (.tmp 61) (.tmp 73) _ _ dq HDQ.out (tagd_len _ _) (tagd_len _ _) rfl rfl rfl) h4 ?_
        simp only [Act.put, List.setIfInBounds_toArray, List.set_cons_zero, List.set_cons_succ]
        refine tk_val 64 75 (.bool dq) rfl (by kernel_rfl) (by kernel_rfl) (by kernel_rfl) (fun _ _ _ _ h => h) rfl rfl (fun _ _ => ev_pickT (.tmp 49) (.tmp 74) _ _ rfl rfl rfl) h4 ?_
        simp only [Act.put, List.setIfInBounds_toArray, List.set_cons_zero, List.set_cons_succ]
        refine wpAnyH_done (by kernel_rfl) (NoPanic.normal ?_) _
        cases dq with
        | true =>
          have HFIN := Lib.hid h4
          clear h4
          go_wp2_with fail
          go_ret
          exact ⟨rfl, HFIN.out⟩
        | false =>
          have H0 := Lib.hid h4
          have HQ2 := Lib.hid (HNX.out (fun hcl => of_decide_eq_false HDQ.out hcl.2.2.2))
          clear h4
          go_wp2_with fail
          go_roundw
          case rel => exact ⟨k + 1, by go_num, by omega, H0, HQ2⟩
          case measure => simp [intOf]; omega
    · rw [if_pos (show Region.wanted _ _ = true from rfl)]
      refine wp_convB 72 (.tmp 71) (ByteArray.mk y.toArray) rfl rfl rfl HSY.out (fun by_ cy V1 hby hge hbl => ?_)
      rw [bax] at hby
      have h1 := STEP.out _ _ h0 hbl
      refine hK.out _ _ h1 (fun _ => ?_)
      simp only [Act.put, List.setIfInBounds_toArray, List.set_cons_zero, List.set_cons_succ]
      clear hK hge hbl
      refine lone 49 (by kernel_rfl) rfl (fun K' hK => ?_)
      rw [if_pos (show Region.wanted _ _ = true from rfl)]
      refine wp_convB 60 (.tmp 59) (ByteArray.mk x.toArray) rfl rfl rfl HSX.out (fun bx cx V2 hbx hge hbl => ?_)
      rw [bax] at hbx
      have h2 := STEP.out _ _ h1 hbl
      have hby := hby.keep (w' := V2) (S' := (· < V2.heap.size)) fun j hj => ⟨Nat.lt_of_lt_of_le hj hbl.size, hbl.block j hj⟩
      refine hK _ _ h2 ?_
      simp only [Act.put, List.setIfInBounds_toArray, List.set_cons_zero, List.set_cons_succ]
      clear hK hge hbl
      refine lone 50 (by kernel_rfl) rfl (fun K' hK => ?_)
      rw [if_pos (show Region.wanted _ _ = true from rfl)]
      refine wp_call 42 61 _ _ #[.string t, .slice (some ⟨bx, 0, none⟩) (ByteArray.mk x.toArray).size cx] _ rfl rfl rfl enters_Tagged (CT.out t x bx cx _ HT.out HX.out h2 hbx) (fun e V3 hq => ?_)
      refine ⟨_, hq.1, ?_⟩
      have h3 := STEP.out _ _ h2 hq.2
      have hby := hby.keep (w' := V3) (S' := (· < V3.heap.size)) fun j hj => ⟨Nat.lt_of_lt_of_le hj hq.2.size, hq.2.block j hj⟩
      refine hK _ _ h3 ?_
      simp only [Act.put, List.setIfInBounds_toArray, List.set_cons_zero, List.set_cons_succ]
      clear hK hq
      refine lone 62 (by kernel_rfl) rfl (fun K' hK => ?_)
      rw [if_pos (show Region.wanted _ _ = true from rfl)]
      refine wp_call 42 73 _ _ #[.string u, .slice (some ⟨by_, 0, none⟩) (ByteArray.mk y.toArray).size cy] _ rfl rfl rfl enters_Tagged (CT.out u y by_ cy _ HUS.out HY.out h3 hby) (fun e V4 hq => ?_)
      refine ⟨_, hq.1, ?_⟩
      have h4 := STEP.out _ _ h3 hq.2
      refine hK _ _ h4 ?_
      simp only [Act.put, List.setIfInBounds_toArray, List.set_cons_zero, List.set_cons_succ]
      clear hK hq
      refine tkw_val 63 74 (.bool dq) rfl (by kernel_rfl) (by kernel_rfl) (by kernel_rfl) (fun _ _ _ _ h => h) (by kernel_rfl) rfl (fun _ _ => ev_eqDq (.tmp 61) (.tmp 73) _ _ dq HDQ.out (tagd_len _ _) (tagd_len _ _) rfl rfl rfl) h4 ?_
      simp only [Act.put, List.setIfInBounds_toArray, List.set_cons_zero, List.set_cons_succ]
      refine tk_val 64 75 (.bool dq) rfl (by kernel_rfl) (by kernel_rfl) (by kernel_rfl) (fun _ _ _ _ h => h) rfl rfl (fun _ _ => ev_pickT (.tmp 49) (.tmp 74) _ _ rfl rfl rfl) h4 ?_
      simp only [Act.put, List.setIfInBounds_toArray, List.set_cons_zero, List.set_cons_succ]
      refine wpAnyH_done (by kernel_rfl) (NoPanic.normal ?_) _
      cases dq with
      | true =>
        have HFIN := Lib.hid h4
        clear h4
        go_wp2_with fail
        go_ret
        exact ⟨rfl, HFIN.out⟩
      | false =>
        have H0 := Lib.hid h4
        have HQ2 := Lib.hid (HNX.out (fun hcl => of_decide_eq_false HDQ.out hcl.2.2.2))
        clear h4
        go_wp2_with fail
        go_roundw
        case rel => exact ⟨k + 1, by go_num, by omega, H0, HQ2⟩
        case measure => simp [intOf]; omega
end Go.Proofs.YteicbdjennjcdaaDoor
