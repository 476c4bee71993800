/- Codec: the reference's encode. -/
import Derived.Test.YtomiacedailmaaaCL
namespace Go.Proofs.Ytomiacedailmaaa
open Go.RowKit

/-- the same two laws inside a region that draws its order -/
theorem step_own {ops : Array Oper} {o : Oper} {a : Act} {K : Act → World → Prop} {Q : Exit → Act → World → Prop} {E : Prop} {w : World} (hgd : o.guard = none) (s x : Operand)
    (ho : o.op = .call { callee := .builtin .append, args := #[s, x], argTypes := #[27, 27] })
    (base b2 : Nat) (v v2 : Value) (l l2 : List UInt8) (hs : a.eval s = v) (hx : a.eval x = v2) (hown : Own w base v l) (hsrc : Own w b2 v2 l2) (hpos : 0 < l2.length)
    (hlen : l.length + l2.length ≤ 140737488355328) (hbase : base ≤ w.heap.size)
    (h : ∀ v' w', Own w' base v' (l ++ l2) → w.grownBy w' v.ownBlock → K (a.put o.dst v') w') : if Region.wanted o (yielded ops a.tmps) = true then Oper.wp Try.prog o a w K Q else E := by
  obtain ⟨i, hi, hz0, hz1, hz2⟩ := info_parts info_u8
  obtain ⟨g, cap, e, _, _, _, _, hc⟩ := hsrc.form hpos
  have hw : Region.wanted o (yielded ops a.tmps) = true := by simp [Region.wanted, hgd]
  rw [if_pos hw]
  refine wp_append_own w s x 27 ho base 5 i (.int .u8 0) 1 1 Try.underlying27 hi hz0 hz1 hz2 rfl (by omega) v l.length (U l) hs hown ⟨g, 0, none⟩ l2.length cap (U l2)
    (by rw [hx, e]) (by rw [U_length, Nat.mul_one]) hc (U_one l2) (by simp only [maxLen]; omega) (by omega) hbase ?_
  intro v' w' h1 h2 _
  refine h v' w' ?_ h2
  unfold Own
  rw [List.length_append, U_append]
  exact h1
theorem step_str {ops : Array Oper} {o : Oper} {a : Act} {K : Act → World → Prop} {Q : Exit → Act → World → Prop} {E : Prop} {w : World} (hgd : o.guard = none) (s x : Operand)
    (ho : o.op = .call { callee := .builtin .append, args := #[s, x], argTypes := #[27, 9] })
    (base : Nat) (v : Value) (l : List UInt8) (t : ByteArray) (hs : a.eval s = v) (hx : a.eval x = .string t) (hown : Own w base v l)
    (hlen : l.length + t.size ≤ 140737488355328) (hbase : base ≤ w.heap.size)
    (h : ∀ v' w', Own w' base v' (l ++ t.data.toList) → w.grownBy w' v.ownBlock → K (a.put o.dst v') w') : if Region.wanted o (yielded ops a.tmps) = true then Oper.wp Try.prog o a w K Q else E := by
  obtain ⟨i, hi, hz0, hz1, hz2⟩ := info_parts info_u8
  have hw : Region.wanted o (yielded ops a.tmps) = true := by simp [Region.wanted, hgd]
  rw [if_pos hw]
  obtain ⟨v', w', hr, h2, h3, _⟩ := Lib.run_append_own_string (P := Try.prog) w base 27 9 o.type 5 i Try.underlying27 Try.underlying9 hi hz0 hz1 hz2 v l.length (U l) hown t (by simp only [maxLen]; omega) (by omega) hbase
  unfold Oper.wp execOp
  simp only [ho, resolve, invoke, builtin, Sem.run_bind, Sem.run_pure, Result.andThen_ok, List.map_toArray, List.map_cons, List.map_nil, hs, hx, hr]
  refine h v' w' ?_ h3
  unfold Own
  rw [List.length_append, U_append, show t.data.toList.length = t.size from by simp]
  exact h2

set_option maxRecDepth 100000 in
set_option maxHeartbeats 800000 in
theorem rencode_int (v : V) (A : Option Addr) (cap : Nat) (w : World) (hk : v.k = 1) (h1 : -9223372036854775808 ≤ v.n) (h2 : v.n ≤ 9223372036854775807) :
    Calls Try.prog 29 #[v.val A cap] w fun e w' => ∃ bv, e = .returned bv ∧ Own w' w.heap.size bv v.enc ∧ Below w.heap.size w w' := by
  have hu := uns_bd v.n h1 h2
  have HE : Hid (v.enc = [1] ++ numf 10 (uns v.n).toNat) := by show _ = _; simp [V.enc, enc1, hk]
  have D := Lib.hid (fun ww => runs_any v.n ww h1 h2)
  have C := Lib.hid (fun ww => rnumeral_all 9 (uns v.n) ww hu.1 (by omega) (by omega) hu.2)
  have hb := below_alloc2 w (.cells #[.int .i64 1, .int .i64 v.n, .string v.s, .slice A v.l.len cap] 24) (.cells #[.int .u8 1] 5)
  have hlen := numf_len 10 (uns v.n).toNat
  have hpos := numf_pos 9 (uns v.n).toNat
  have HO := Lib.hid (own_build (w.alloc (.cells #[.int .i64 1, .int .i64 v.n, .string v.s, .slice A v.l.len cap] 24)) 1 (by omega))
  go_enter Try.func29, Try.ntmps29
  go_wp2_with fail
  refine (D.out _).mono ?_
  rintro e w1 ⟨rfl, rfl⟩
  go_wp2_with fail
  refine (C.out _).mono ?_
  rintro e w1 ⟨bv, rfl, ho, hb1⟩
  have hs := hb1.size
  simp only [World.size_alloc] at hs
  have HO1 := Lib.hid (HO.out.below hb1 (Nat.le_refl _))
  simp only [World.size_alloc] at HO1
  have HO2 := Lib.hid ho
  have hb2 : Below w.heap.size w w1 := hb.trans (hb1.mono (by simp; omega))
  clear ho hb hb1
  go_wp2_with (at_builtin; refine app_own rfl (.tmp 9) (.tmp 13) rfl (w.heap.size + 1) _ _ bv _ _ rfl rfl HO1.out HO2.out hpos (by simp; omega) (by omega) ?_; intro v' w2 ho3 hg)
  go_ret
  exact ⟨v', rfl, by rw [HE.out]; exact ho3.base (by omega), below_own hb2 hg HO1.out (by omega) (by omega)⟩

set_option maxRecDepth 100000 in
set_option maxHeartbeats 800000 in
theorem rencode_text (v : V) (A : Option Addr) (cap : Nat) (w : World) (hk : v.k = 2) (hl : v.s.size < 1099511627776) :
    Calls Try.prog 29 #[v.val A cap] w fun e w' => ∃ bv, e = .returned bv ∧ Own w' w.heap.size bv v.enc ∧ Below w.heap.size w w' := by
  have HE : Hid (v.enc = [2] ++ (numf 10 v.s.size ++ v.s.data.toList)) := by show _ = _; simp [V.enc, enc1, hk]
  have C := Lib.hid (fun ww => show Calls Try.prog 43 #[.int .u64 v.s.size] ww fun e w' => ∃ bv, e = .returned bv ∧ Own w' ww.heap.size bv (numf 10 v.s.size) ∧ Below ww.heap.size ww w' from rnumeral_all 9 (v.s.size : Int) ww (by omega) (by omega) (by omega) (by omega))
  have hlen := numf_len 10 v.s.size
  have hpos : 0 < (numf 10 v.s.size).length := numf_pos 9 v.s.size
  go_enter Try.func29, Try.ntmps29
  go_wp2_with fail
  obtain ⟨W1, hW1⟩ : ∃ W1, W1 = w.alloc (.cells #[.int .i64 2, .int .i64 v.n, .string v.s, .slice A v.l.len cap] 24) := ⟨_, rfl⟩
  rw [← hW1]
  have hc0 : W1.cell? ⟨w.heap.size, 2, none⟩ = some (.string v.s) := by rw [hW1, World.cell?_alloc_at _ _ _ _ rfl]; rfl
  have hz : w.heap.size + 1 ≤ W1.heap.size := by rw [hW1]; simp
  have hb : Below w.heap.size w W1 := by rw [hW1]; exact (Below.refl _ _).alloc (Nat.le_refl _) _
  clear hW1
  have HB : Hid (Own (W1.alloc (.cells #[.int .u8 2] 5)).drew W1.heap.size (.slice (some ⟨W1.heap.size, 0, none⟩) 1 1) [2]) := own_build W1 2 (by omega)
  have hwr : IntKind.u64.wrap (v.s.size : Int) = (v.s.size : Int) := by rw [IntKind.wrap_u64]; omega
  have kb : ∀ w', Below W1.heap.size W1 w' → w'.cell? ⟨w.heap.size, 2, none⟩ = some (.string v.s) := fun w' h => (h.cell (by show w.heap.size < _; omega)).trans hc0
  have KB := Lib.hid kb
  have hb0 : Below W1.heap.size W1 (W1.alloc (.cells #[.int .u8 2] 5)).drew := ((Below.refl _ _).alloc (Nat.le_refl _) _).drew
  clear kb
  have hbA : ∀ w1, Below (W1.alloc (.cells #[.int .u8 2] 5)).drew.heap.size (W1.alloc (.cells #[.int .u8 2] 5)).drew w1 → Below W1.heap.size W1 w1 ∧ Own w1 W1.heap.size (.slice (some ⟨W1.heap.size, 0, none⟩) 1 1) [2] := fun w1 h =>
    ⟨hb0.trans (h.mono hb0.size), HB.out.below h (Nat.le_refl _)⟩
  have HA := Lib.hid hbA
  have hbB : ∀ w1, Below W1.drew.heap.size W1.drew w1 → Below W1.heap.size W1 w1 ∧ Below W1.heap.size W1 (w1.alloc (.cells #[.int .u8 2] 5)) ∧ Own (w1.alloc (.cells #[.int .u8 2] 5)) W1.heap.size (.slice (some ⟨w1.heap.size, 0, none⟩) 1 1) [2] := fun w1 h =>
    ⟨(Below.refl _ _).drew.trans h, ((Below.refl _ _).drew.trans h).alloc (show W1.heap.size ≤ w1.heap.size from h.size) _, (own_build w1 2 (by omega)).base (show W1.heap.size ≤ w1.heap.size from h.size)⟩
  have HBB := Lib.hid hbB
  have HAP : Hid (∀ (v2 : Value) (w1 w2 : World) (v : Value) (l : List UInt8), Below W1.heap.size W1 w1 → Own w1 W1.heap.size v l → w1.grownBy w2 v.ownBlock → Below W1.heap.size W1 w2) := fun v2 w1 w2 v l h ho hg => below_own h hg ho (Nat.le_refl _) h.size
  clear hbA hbB hb0
  go_region_held3 (fun w' => w'.cell? ⟨w.heap.size, 2, none⟩ = some (.string v.s)) (first | exact hc0 | exact KB.out _ hbx | exact KB.out _ hbx0 | exact KB.out _ ((Below.refl _ _).alloc (Nat.le_refl _) _).drew)
    (first
      | (go_at_call 43; (with_reducible refine (C.out _).mono ?_); rintro e w1 ⟨bv, rfl, ho, hb1⟩;
         (first
            | (have hx := HA.out _ hb1; have HO1 := Lib.hid hx.2; have hbx := hx.1; have HO2 := Lib.hid (ho.base (show W1.heap.size ≤ _ by simp)); clear ho hb1 hx)
            | (have hx := HBB.out _ hb1; have hbx0 := hx.1; have hbx := hx.2.1; have HO1 := Lib.hid hx.2.2; have HO2 := Lib.hid (Own.alloc ho (.cells #[.int .u8 2] 5)); clear ho hb1 hx)))
      | (refine step_own ?_ (.tmp 17) (.tmp 22) ?_ W1.heap.size W1.heap.size _ bv _ _ ?_ ?_ HO1.out HO2.out ?_ ?_ ?_ ?_; (rfl); (rfl); (rfl); (rfl); (exact hpos); (simp only [List.length_cons, List.length_nil]; omega); (exact hbx.size); intro v2 w2 ho2 hg; have HO3 := Lib.hid ho2; have hby := HAP.out v2 _ w2 _ _ hbx HO1.out hg; clear hbx; have hbx := hby; clear hby ho2 hg)
      | (refine step_str ?_ (.tmp 23) (.tmp 25) ?_ W1.heap.size v2 _ v.s ?_ ?_ HO3.out ?_ ?_ ?_; (rfl); (rfl); (rfl); (rfl); (simp; omega); (exact hbx.size); intro v3 w3 ho3 hg3; have HO4 := Lib.hid ho3; have hby := HAP.out v3 _ w3 _ _ hbx HO3.out hg3; clear hbx; have hbx := hby; clear hby ho3 hg3))
  all_goals
    go_wp2
    go_ret
    refine ⟨v3, rfl, ?_, hb.trans (hbx.mono (by omega))⟩
    have := HO4.out.base (b' := w.heap.size) (by omega)
    rw [HE.out, ← List.append_assoc]
    exact this

set_option maxRecDepth 100000 in
set_option maxHeartbeats 800000 in
theorem rencode_list (v : V) (A : Option Addr) (cap B : Nat) (w : World) (hk1 : ¬ v.k = 1) (hk2 : ¬ v.k = 2) (hv : RdV w (· < B) v A cap) (hB : B ≤ w.heap.size) (hl : v.enc.length < 1099511627776)
    (ih : ∀ u ∈ v.l.toList, ∀ (A : Option Addr) (cap : Nat) (w : World), RdV w (· < B) u A cap → B ≤ w.heap.size → u.enc.length < 1099511627776 →
      Calls Try.prog 29 #[u.val A cap] w fun e w' => ∃ bv, e = .returned bv ∧ Own w' w.heap.size bv u.enc ∧ Below w.heap.size w w')
    (hpe : ∀ u ∈ v.l.toList, 0 < u.enc.length) :
    Calls Try.prog 29 #[v.val A cap] w fun e w' => ∃ bv, e = .returned bv ∧ Own w' w.heap.size bv v.enc ∧ Below w.heap.size w w' := by
  have hm := hv.2.2.1
  have hm2 := hv.2.1
  unfold maxLen at hm
  have IH := Lib.hid ih
  clear ih
  have HPE := Lib.hid hpe
  clear hpe
  have HE : Hid (v.enc = [3] ++ numf 10 v.l.len ++ v.l.enc) := by show _ = _; simp [V.enc, enc1, hk1, hk2]
  have hle : v.l.enc.length + 1 ≤ v.enc.length := by rw [HE.out]; simp only [List.length_append, List.length_cons, List.length_nil]; omega
  have C := Lib.hid (fun ww => show Calls Try.prog 43 #[.int .u64 v.l.len] ww fun e w' => ∃ bv, e = .returned bv ∧ Own w' ww.heap.size bv (numf 10 v.l.len) ∧ Below ww.heap.size ww w' from rnumeral_all 9 (v.l.len : Int) ww (by omega) (by omega) (by omega) (by omega))
  have hlen := numf_len 10 v.l.len
  have hpos : 0 < (numf 10 v.l.len).length := numf_pos 9 v.l.len
  go_enter Try.func29, Try.ntmps29
  go_wp2_with fail
  obtain ⟨W1, hW1, c0, _, hz, hb, b0, _⟩ := two_boxes w #[.int .i64 v.k, .int .i64 v.n, .string v.s, .slice A v.l.len cap] #[.int .u8 3] 24 5
  have HO0 : Hid (Own W1 (w.heap.size + 1) (.slice (some ⟨w.heap.size + 1, 0, none⟩) 1 1) [3]) := by
    have := own_build (w.alloc (.cells #[.int .i64 v.k, .int .i64 v.n, .string v.s, .slice A v.l.len cap] 24)) 3 (by omega)
    rw [World.size_alloc] at this
    rw [hW1]
    exact this
  rw [← hW1]
  clear hW1
  refine (C.out _).mono ?_
  rintro e w1 ⟨bv, rfl, ho, hb1⟩
  have HO1 := Lib.hid (HO0.out.below hb1 (Nat.le_refl _))
  have HO2 := Lib.hid ho
  have hz1 : w.heap.size + 2 ≤ w1.heap.size := by have := hb1.size; omega
  have X0 := Lib.hid ((hb1.block w.heap.size (by omega)).trans b0)
  have hb2 : Below w.heap.size w w1 := hb.trans (hb1.mono (by omega))
  clear ho hb hb1 hz c0 b0 HO0
  go_wp2_with (at_builtin; refine app_own rfl (.tmp 27) (.tmp 32) rfl (w.heap.size + 1) _ _ bv _ _ rfl rfl HO1.out HO2.out hpos (by simp; omega) (by omega) ?_; intro v' w2 ho3 hg)
  have HO3 := Lib.hid ho3
  have hb3 : Below (w.heap.size + 1) w1 w2 := below_own (Below.refl _ _) hg HO1.out (Nat.le_refl _) (by omega)
  have hb4 : Below w.heap.size w w2 := hb2.trans (hb3.mono (by omega))
  have X2 := Lib.hid ((hb3.block w.heap.size (by omega)).trans X0.out)
  have hz2 : w.heap.size + 2 ≤ w2.heap.size := by have := hb3.size; omega
  clear ho3 hg hb3 hb2
  go_wp2_with fail
  go_loopw [3, 4] (fun o i wr => ∃ k : Nat, k ≤ v.l.len ∧ i = .int .i64 k ∧ Below (w.heap.size + 1) w2 wr ∧ Own wr (w.heap.size + 1) o ([3] ++ numf 10 v.l.len ++ (v.l.toList.take k).flatMap V.enc)) (fun _ i _ => v.l.len - (intOf i).toNat)
  case atStart => exact ⟨0, Nat.zero_le _, rfl, Below.refl _ _, by simpa using HO3.out⟩
  case round =>
    obtain ⟨k, hk, rfl, hb, ho⟩ := hrel
    have HOR := Lib.hid ho
    have hb1 : Below w.heap.size w wr := hb4.trans (hb.mono (by omega))
    have x0 := (hb.block w.heap.size (by omega)).trans X2.out
    have hbox : wr.cell? ⟨w.heap.size, 3, none⟩ = some (.slice A v.l.len cap) := by rw [cell_of_row _ _ _ _ _ _ x0]; rfl
    clear ho x0
    by_cases hlt : k < v.l.len
    · have hlr : Sl wr (· < B) v.l A cap := hv.2.below (hb1.mono hB)
      obtain ⟨b, o, u, A', cap', rfl, hS, hu, hrd, h0, h1, h2, h3'⟩ := hlr.at_ hlt
      have HU := Lib.hid hu
      have hpre : v.l.enc = (v.l.toList.take k).flatMap V.enc ++ (u.enc ++ (v.l.toList.drop (k + 1)).flatMap V.enc) := by
        rw [F.enc_eq]
        conv => lhs; rw [← List.take_append_drop (k + 1) v.l.toList, take_at hu]
        simp
      have hlen2 : ((v.l.toList.take k).flatMap V.enc).length + u.enc.length ≤ v.l.enc.length := by rw [hpre, List.length_append, List.length_append]; omega
      have hup := HPE.out u (List.mem_of_getElem? hu)
      clear hpre hu
      have D := Lib.hid (IH.out u (List.mem_of_getElem? HU.out) A' cap' wr hrd (Nat.le_trans hB hb1.size) (by omega))
      have hsw := hb.size
      go_wp2_with fail
      refine D.out.mono ?_
      rintro e w3 ⟨bu, rfl, hou, hbu⟩
      have HOU := Lib.hid hou
      have HOR2 := Lib.hid (HOR.out.below hbu (Nat.le_refl _))
      have hb5 : Below (w.heap.size + 1) w2 w3 := hb.trans (hbu.mono (by omega))
      have hsw3 := hb5.size
      clear hou hbu hb hb1 h0 h1 h2 h3'
      go_wp2_with (at_builtin; refine app_own rfl (.tmp 41) (.tmp 47) rfl (w.heap.size + 1) _ _ bu _ _ rfl rfl HOR2.out HOU.out hup (by simp only [List.length_append, List.length_cons, List.length_nil]; omega) (by omega) ?_; intro v'' w4 ho4 hg4)
      have HO4 := Lib.hid ho4
      have hb6 := below_own hb5 hg4 HOR2.out (Nat.le_refl _) (by omega)
      clear ho4 hg4 hb5
      go_wp2
      go_roundw
      case rel =>
        refine ⟨k + 1, by omega, by go_num, hb6, ?_⟩
        have := HO4.out
        rw [take_at HU.out]
        simpa using this
      case measure => simp [intOf]; omega
    · obtain rfl : k = v.l.len := by omega
      go_wp2
      go_ret
      refine ⟨_, rfl, ?_, hb1⟩
      have := HOR.out.base (b' := w.heap.size) (by omega)
      rw [List.take_of_length_le (by rw [F.len_toList]; exact Nat.le_refl _), ← F.enc_eq] at this
      rw [HE.out]
      exact this
end Go.Proofs.Ytomiacedailmaaa
