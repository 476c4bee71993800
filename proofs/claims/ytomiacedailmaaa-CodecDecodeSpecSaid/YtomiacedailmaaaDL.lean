/- Codec: the reference's reader: lists. -/
import Derived.Test.YtomiacedailmaaaDK
import Derived.Test.YtomiacedailmaaaCT
import Derived.Deep.RegionHeld3
import Derived.Deep.RegionLaw
namespace Go.Proofs.Ytomiacedailmaaa
open Go.RowKit

/-- append of one value onto an own row of values, inside a region that draws its order -/
theorem step_val {ops : Array Oper} {o : Oper} {a : Act} {K : Act → World → Prop} {Q : Exit → Act → World → Prop} {E : Prop} {w : World} (hgd : o.guard = none) (s x : Operand)
    (ho : o.op = .call { callee := .builtin .append, args := #[s, x], argTypes := #[22, 22] })
    (base g : Nat) (v : Value) (l : List El) (e : El) (hs : a.eval s = v) (hx : a.eval x = .slice (some ⟨g, 0, none⟩) 1 1) (hown : OwnV w base v l)
    (hsrc : w.heap[g]? = some (.cells #[.int .i64 e.v.k, .int .i64 e.v.n, .string e.v.s, .slice e.A e.v.l.len e.cap] 24 (0, 0)))
    (hlen : l.length + 1 ≤ 1099511627776) (hbase : base ≤ w.heap.size)
    (h : ∀ v' w', OwnV w' base v' (l ++ [e]) → w.grownBy w' v.ownBlock → (v'.ownBlock = v.ownBlock ∨ v'.ownBlock = some w.heap.size) → K (a.put o.dst v') w') : if Region.wanted o (yielded ops a.tmps) = true then Oper.wp Try.prog o a w K Q else E := by
  obtain ⟨i, hi, hz0, hz1, hz2⟩ := info_parts info_val
  have hw : Region.wanted o (yielded ops a.tmps) = true := by simp [Region.wanted, hgd]
  rw [if_pos hw]
  obtain ⟨v', w', hr, h2, h3, _, h5⟩ := run_append_own_at (P := Try.prog) w base 22 o.type 24 i _ 4 56 Try.underlying22 hi hz0 hz1 hz2 rfl (by omega) v l.length (cells l) hown ⟨g, 0, none⟩ 1 1 e.cells
    (by simp [El.cells]) (by
      intro j u hu
      rw [Go.WideShapes.add_plain, cell_of_row _ _ _ _ _ _ hsrc, Nat.zero_add, ← hu]
      simp [El.cells]) (by have := cells_one [e]; simpa [cells] using this) (by simp only [maxLen]; omega) (by omega) hbase
  unfold Oper.wp execOp
  simp only [ho, resolve, invoke, builtin, Sem.run_bind, Sem.run_pure, Result.andThen_ok, List.map_toArray, List.map_cons, List.map_nil, hs, hx, hr]
  refine h v' w' ?_ h3 h5
  unfold OwnV
  rw [List.length_append, cells_snoc]
  exact h2

theorem OwnV.form {w : World} {b : Nat} {v : Value} {l : List El} (h : OwnV w b v l) : ∃ A cap, v = .slice A l.length cap := by
  rcases h.2 with ⟨rfl, h0⟩ | ⟨g, cap, cur, rfl, _⟩
  · exact ⟨_, _, by rw [h0]⟩
  · exact ⟨_, _, rfl⟩
/-- a row of values, as the value that is their list -/
def lst (x : Option (List V × List UInt8)) : Option (V × List UInt8) := x.map fun y => (⟨3, 0, ⟨#[]⟩, F.ofList y.1⟩, y.2)
theorem many_le (p : List UInt8 → Option (V × List UInt8)) (hp : ∀ l v l2, p l = some (v, l2) → l2.length < l.length) : ∀ (n : Nat) (l : List UInt8) (x : List V × List UInt8), manyP p n l = some x → n ≤ l.length
  | 0, _, _, _ => Nat.zero_le _
  | n + 1, l, x, h => by
    rw [manyP] at h
    split at h
    · cases h
    · rename_i v l1 hv
      split at h
      · cases h
      · rename_i vs l2 hm
        have := many_le p hp n l1 _ hm
        have := hp _ _ _ hv
        omega
theorem valP_three {d : Nat} {c : UInt8} {r : List UInt8} (hc : c.toNat = 3) :
    (d = 0 → valP d (c :: r) = none) ∧ (numP 10 0 r = none → valP d (c :: r) = none) ∧ (∀ d' u l1, d = d' + 1 → numP 10 0 r = some (u, l1) → valP d (c :: r) = lst (manyP (valP d') u l1)) := by
  refine ⟨fun h => ?_, fun h => ?_, fun d' u l1 h hn => ?_⟩
  · subst h; rw [valP, if_neg (by omega), if_neg (by omega), if_pos hc]
  · cases d with
    | zero => rw [valP, if_neg (by omega), if_neg (by omega), if_pos hc]
    | succ d => rw [valP, if_neg (by omega), if_neg (by omega), if_pos hc, listP, h]
  · subst h
    rw [valP, if_neg (by omega), if_neg (by omega), if_pos hc, listP, hn]
    dsimp only
    cases manyP (valP d') u l1 with
    | none => rfl
    | some x => rfl

set_option maxRecDepth 100000 in
set_option maxHeartbeats 3200000 in
theorem qvalue_list (rb B : Nat) (c : UInt8) (L r : List UInt8) (d : Nat) (ar : Int) (w : World) (hr : RdrQ w rb B L (c :: r) false) (hB : B ≤ rb) (hc : c.toNat = 3) (hd : d ≤ 16) (har : ar = 16 - d) (hL40 : L.length < 1099511627776)
    (hval : ∀ d', d = d' + 1 → ∀ l ww, RdrQ ww rb B L l false → Calls Try.prog 39 #[.pointer (some ⟨rb, 0, none⟩), .int .i64 (ar + 1)] ww (QPost rb B L ww (valP d' l))) :
    Calls Try.prog 39 #[.pointer (some ⟨rb, 0, none⟩), .int .i64 ar] w (QPost rb B L w (valP d (c :: r))) := by
  have hlt := hr.lt
  obtain ⟨R, hR⟩ : ∃ R, R = valP d (c :: r) := ⟨_, rfl⟩
  rw [← hR]
  obtain ⟨hv0, hvn, hvs⟩ := valP_three (d := d) (r := r) hc
  rw [← hR] at hv0 hvn
  simp only [← hR] at hvs
  have HV0 := Lib.hid hv0
  have HVN := Lib.hid hvn
  have HVS := Lib.hid hvs
  have HVAL := Lib.hid hval
  have HAR := Lib.hid har
  clear hR hv0 hvn hvs hval
  have har1 : 0 ≤ ar := by omega
  have har2 : ar ≤ 16 := by omega
  have h16 : (ar == 16) = decide (d = 0) := by rw [Bool.eq_iff_iff]; simp; omega
  clear har
  have C := Lib.hid (next_ok rb B L r c false (w.alloc (.cells zero4 24)) (hr.far (fun k hk => Below.heap_alloc _ _ _ hk) (by omega)) hB)
  rw [hc] at C
  clear hc hr
  go_enter Try.func39, Try.ntmps39
  go_wp2_with fail
  refine C.out.mono ?_
  rintro e w1 ⟨rfl, hr1, hg1⟩
  have D := Lib.hid (number_all rb B L r w1 hr1 hB)
  have hq1 : w1.heap[w.heap.size]? = some (.cells zero4 24 (0, 0)) := (hg1.block _ (by simp) (by intro e; injection e; omega)).trans (heap_alloc_new w _)
  have hz1 := lt_of_block hq1
  have HG1 := Lib.hid (grown2 (grown_alloc w _ _) hg1)
  clear hr1 hg1 C
  go_wp2_with fail
  refine D.out.mono ?_
  rintro e w2 ⟨hg2, hm⟩
  have hq2 := (hg2.block w.heap.size hz1 (by intro e; injection e; omega)).trans hq1
  have HG2 := Lib.hid (grown2 HG1.out hg2)
  clear hg2 hq1 D
  rcases hn : numP 10 0 r with _ | ⟨u, l1⟩
  · rw [hn] at hm
    obtain ⟨u, r2, rfl, hu, hq⟩ := hm
    have HE := Lib.hid (fun n => bad_end hq HG2.out hlt hB hq2 R (HVN.out hn) n)
    have K := Lib.hid (fun n => res_cells (HE.out n).1)
    have k0 := fun n => (K.out n).1
    have k1 := fun n => (K.out n).2.1
    have k2 := fun n => (K.out n).2.2.1
    have k3 := fun n => (K.out n).2.2.2.1
    have g0 := fun n => (K.out n).2.2.2.2.1
    have g1 := fun n => (K.out n).2.2.2.2.2.1
    have g2 := fun n => (K.out n).2.2.2.2.2.2.1
    have g3 := fun n => (K.out n).2.2.2.2.2.2.2
    have f2 := (bad_set hq hB).2.2.1
    have c2 := (bad_set hq hB).2.2.2
    clear hq hq2 hn h16
    go_wp2_with fail
    go_quiet (fail)
    go_wp2_with fail
    exact bodyPost_ret (v := .agg zero4) (by simp [results, Try.results39, go_sem, k0, k1, k2, k3]) rfl ((HE.out _).2 _ _ _ _)
  · rw [hn] at hm
    obtain ⟨rfl, hq⟩ := hm
    have HQ := Lib.hid hq
    obtain ⟨A, cap, a, hh, hb, hdr, ha⟩ := hq
    have hll : l1.length = L.length - a := by rw [← hdr, List.length_drop]
    have hu := (numP_lt' hn).1
    have hm1 := hb.1
    have hm2 := hb.2.1
    unfold maxLen at hm2
    have c0 := cell_of_row _ _ 0 _ _ _ hh
    have c1 := cell_of_row _ _ 1 _ _ _ hh
    have c2 := cell_of_row _ _ 2 _ _ _ hh
    have f2 := cells_frozen hh 2
    clear hh hb hdr
    have e1 : IntKind.i64.wrap ((L.length : Int) - a) = l1.length := by rw [show (L.length : Int) - a = l1.length from by omega]; exact IntWalk.i64_in _ (by omega)
    have e2 : IntKind.u64.wrap (l1.length : Int) = l1.length := by rw [IntKind.wrap_u64]; omega
    have hl63 : l1.length < 1099511627776 := by omega
    have HLL := Lib.hid hll
    clear hll
    by_cases hok : u ≤ l1.length ∧ d ≠ 0
    · obtain ⟨hle, hd0⟩ := hok
      have hdd : decide (l1.length < u) = false := by simpa using hle
      obtain ⟨d', rfl⟩ : ∃ d', d = d' + 1 := ⟨d - 1, by omega⟩
      have h16' : (ar == 16) = false := by rw [h16]; simp
      have HRS : Hid (R = lst (manyP (valP d') u l1)) := HVS.out d' u l1 rfl hn
      have HLE := Lib.hid hle
      have HQ2 := Lib.hid hq2
      clear hn hle hq2 h16 hd0
      have K := Lib.hid (fun n => res_cells (heap_alloc_new (w2.drewN n) (.cells zero4 24)))
      have k0 := fun n => show ((w2.drewN n).alloc (.cells zero4 24)).cell? ⟨w2.heap.size, 0, none⟩ = _ from (K.out n).1
      have k1 := fun n => show ((w2.drewN n).alloc (.cells zero4 24)).cell? ⟨w2.heap.size, 1, none⟩ = _ from (K.out n).2.1
      have k2 := fun n => show ((w2.drewN n).alloc (.cells zero4 24)).cell? ⟨w2.heap.size, 2, none⟩ = _ from (K.out n).2.2.1
      have k3 := fun n => show ((w2.drewN n).alloc (.cells zero4 24)).cell? ⟨w2.heap.size, 3, none⟩ = _ from (K.out n).2.2.2.1
      have g0 := fun n => show ((w2.drewN n).alloc (.cells zero4 24)).frozen? ⟨w2.heap.size, 0, none⟩ = _ from (K.out n).2.2.2.2.1
      have g1 := fun n => show ((w2.drewN n).alloc (.cells zero4 24)).frozen? ⟨w2.heap.size, 1, none⟩ = _ from (K.out n).2.2.2.2.2.1
      have g2 := fun n => show ((w2.drewN n).alloc (.cells zero4 24)).frozen? ⟨w2.heap.size, 2, none⟩ = _ from (K.out n).2.2.2.2.2.2.1
      have g3 := fun n => show ((w2.drewN n).alloc (.cells zero4 24)).frozen? ⟨w2.heap.size, 3, none⟩ = _ from (K.out n).2.2.2.2.2.2.2
      go_wp2_with fail
      go_quiet (fail)
      go_wp2_with fail
      obtain ⟨W8, hW8⟩ : ∃ W8, W8 = (((((w2.drewN nq).alloc (.cells zero4 24)).setCell ⟨w2.heap.size, 0, none⟩ (.int .i64 3)).setCell ⟨w2.heap.size, 1, none⟩ (.int .i64 0)).setCell ⟨w2.heap.size, 2, none⟩ (.string ⟨#[]⟩)).setCell ⟨w2.heap.size, 3, none⟩ (.slice none 0 0) := ⟨_, rfl⟩
      rw [← hW8]
      have hb8 : W8.heap[w2.heap.size]? = some (.cells #[.int .i64 3, .int .i64 0, .string ⟨#[]⟩, .slice none 0 0] 24 (0, 0)) := by
        rw [hW8]; exact blk_set (blk_set (blk_set (blk_set (heap_alloc_new (w2.drewN nq) (.cells zero4 24)) 0 _) 1 _) 2 _) 3 _
      have hk8 : ∀ i, i < w2.heap.size → W8.heap[i]? = w2.heap[i]? := fun i hi => by
        have hne : i ≠ w2.heap.size := by omega
        rw [hW8]
        exact (Below.heap_setCell _ _ _ _ hne).trans ((Below.heap_setCell _ _ _ _ hne).trans ((Below.heap_setCell _ _ _ _ hne).trans ((Below.heap_setCell _ _ _ _ hne).trans (Below.heap_alloc _ _ _ hi))))
      have hz8 := lt_of_block hb8
      have hz2 := lt_of_block HQ2.out
      have HQ8 := Lib.hid (HQ.out.far hk8 (by omega))
      have HG8 : Hid (w.grownBy W8 (some rb)) := ⟨by rw [hW8]; exact HG2.out.os, by rw [hW8]; exact HG2.out.tape, by rw [hW8]; exact HG2.out.output, by omega, fun i hi hne => (hk8 i (by omega)).trans (HG2.out.block i hi hne)⟩
      have HQ3 : Hid (W8.heap[w.heap.size]? = some (.cells zero4 24 (0, 0))) := (hk8 _ hz2).trans HQ2.out
      have HB8 := Lib.hid hb8
      clear hW8 hb8 hk8 K k0 k1 k2 k3 g0 g1 g2 g3 c0 c1 c2 f2 e1 e2 hdd h16'
      go_loopw [9] (fun i wr => ∃ (k : Nat) (E : List El) (l' : List UInt8) (bad : Bool) (o : Value), i = .int .u64 k ∧ k ≤ u ∧ wr.heap[w2.heap.size]? = some (.cells #[.int .i64 3, .int .i64 0, .string ⟨#[]⟩, o] 24 (0, 0)) ∧ wr.heap[w.heap.size]? = some (.cells zero4 24 (0, 0)) ∧
          OwnV wr (w2.heap.size + 1) o E ∧ E.length = k ∧ RdrQ wr rb B L l' bad ∧ w.grownBy wr (some rb) ∧ (bad = true → R = none) ∧
          (bad = false → l'.length + k ≤ l1.length ∧ (∀ e ∈ E, RdV wr (fun b => w2.heap.size < b ∧ b < wr.heap.size ∧ o.ownBlock ≠ some b) e.v e.A e.cap) ∧ R = lst (joinP (E.map El.v) (manyP (valP d') (u - k) l')))) (fun i _ => u - (intOf i).toNat)
      case atStart =>
        refine ⟨0, [], l1, false, .slice none 0 0, rfl, Nat.zero_le _, HB8.out, HQ3.out, World.ownsRow_nil _ _ _ _, rfl, HQ8.out, HG8.out, (fun h => by cases h), fun _ => ⟨Nat.le_refl _, (fun e he => absurd he (by simp)), ?_⟩⟩
        rw [HRS.out]
        cases manyP (valP d') (u - 0) l1 with
        | none => rfl
        | some x => simp [joinP, lst]
      case round =>
        obtain ⟨k, E, l', bad, o, rfl, hk, hb, hqr, ho, hE, hrd, hg, hbad, hgood⟩ := hrel
        have HO := Lib.hid ho
        have HE := Lib.hid hE
        have HRD := Lib.hid hrd
        have HG := Lib.hid hg
        have HBAD := Lib.hid hbad
        have HGOOD := Lib.hid hgood
        have HBX := Lib.hid hb
        have HQR := Lib.hid hqr
        have c2 := (bad_set hrd hB).2.2.2
        have b0 := cell_of_row _ _ 0 _ _ _ hb
        have b1 := cell_of_row _ _ 1 _ _ _ hb
        have b2 := cell_of_row _ _ 2 _ _ _ hb
        have b3 := cell_of_row _ _ 3 _ _ _ hb
        have bf3 := cells_frozen hb 3
        obtain ⟨k0, k1, k2, k3, g0, g1, g2, g3⟩ := res_cells hqr
        clear ho hE hrd hg hbad hgood hb hqr
        by_cases hgo : k < u ∧ bad = false
        · obtain ⟨hlt2, rfl⟩ := hgo
          have hxl : E.length < 1099511627776 ∨ True := .inr trivial
          clear hxl
          have hlenE : k ≤ l1.length := by have := (HGOOD.out rfl).1; omega
          have hz := lt_of_block HBX.out
          have hsz : w2.heap.size < wr.heap.size := hz
          have IH := Lib.hid (HVAL.out d' rfl l' wr.drew (HRD.out.far (fun _ _ => rfl) (by omega)))
          have post : ∀ e w3, QPost rb B L wr.drew (valP d' l') e w3 → ∃ (v : V) (A9 : Option Addr) (cap9 : Nat) (r2 : List UInt8) (bad2 : Bool), e = .returned (v.val A9 cap9) ∧ wr.grownBy w3 (some rb) ∧ RdrQ w3 rb B L r2 bad2 ∧ (bad2 = true → R = none) ∧
              (bad2 = false → r2.length + (k + 1) ≤ l1.length ∧ RdV w3 (fun b => wr.heap.size ≤ b ∧ b < w3.heap.size) v A9 cap9 ∧ R = lst (joinP (E.map El.v ++ [v]) (manyP (valP d') (u - (k + 1)) r2))) := by
            intro e w3 hq
            obtain ⟨hgq, hm⟩ := hq
            have hgq' : wr.grownBy w3 (some rb) := ⟨hgq.os, hgq.tape, hgq.output, hgq.size, hgq.block⟩
            have hR := (HGOOD.out rfl).2.2
            rw [show u - k = (u - (k + 1)) + 1 from by omega] at hR
            rcases hp : valP d' l' with _ | ⟨v, r2⟩
            · rw [hp] at hm
              obtain ⟨v, A9, cap9, r2, rfl, h2⟩ := hm
              rw [joinP_none _ _ _ _ hp] at hR
              exact ⟨v, A9, cap9, r2, true, rfl, hgq', h2, fun _ => hR, fun h => by cases h⟩
            · rw [hp] at hm
              obtain ⟨A9, cap9, rfl, h1, h2⟩ := hm
              rw [joinP_snoc _ _ _ _ _ _ hp] at hR
              have h3 := valP_lt _ _ _ _ hp
              have h4 := (HGOOD.out rfl).1
              exact ⟨v, A9, cap9, r2, false, rfl, hgq', h2, (fun h => by cases h), fun _ => ⟨by omega, h1, hR⟩⟩
          have POST := Lib.hid post
          have keep : ∀ ww : World, ww.heap[w2.heap.size]? = wr.heap[w2.heap.size]? → ww.cell? ⟨w2.heap.size, 3, none⟩ = some o ∧ ww.frozen? ⟨w2.heap.size, 3, none⟩ = false := fun ww h => by
            have hb := h.trans HBX.out
            have c := cell_of_row _ _ 3 _ _ _ hb
            exact ⟨c, cells_frozen hb 3⟩
          have KEEP := Lib.hid keep
          have howlt : ∀ g, o.ownBlock = some g → w2.heap.size + 1 ≤ g ∧ g < wr.heap.size := fun g hg => World.ownsRow.lt HO.out g hg
          have HOW := Lib.hid howlt
          have nx : ∀ (w3 : World) (v : V) (A9 : Option Addr) (cap9 : Nat), wr.grownBy w3 (some rb) → w3.heap[w2.heap.size]? = wr.heap[w2.heap.size]? ∧
              (w3.alloc (.cells #[.int .i64 v.k, .int .i64 v.n, .string v.s, .slice A9 v.l.len cap9] 24)).heap[w2.heap.size]? = wr.heap[w2.heap.size]? ∧
              OwnV (w3.alloc (.cells #[.int .i64 v.k, .int .i64 v.n, .string v.s, .slice A9 v.l.len cap9] 24)) (w2.heap.size + 1) o E ∧ wr.heap.size ≤ w3.heap.size := fun w3 v A9 cap9 h => by
            have h1 := h.block w2.heap.size hz (by intro e; injection e; omega)
            have h3 := h.size
            refine ⟨h1, (Below.heap_alloc _ _ _ (by omega)).trans h1, World.ownsRow.alloc (HO.out.kept fun g hg => h.block g (HOW.out g hg).2 (by have := (HOW.out g hg).1; intro e; injection e; omega)) _, h3⟩
          have NX := Lib.hid nx
          have hE20 := HE.out
          clear post keep howlt nx k0 k1 k2 k3 g0 g1 g2 g3 b0 b1 b2
          have hkl : k + 1 ≤ 1099511627776 ∨ True := .inr trivial
          clear hkl
          go_wp2_with fail

          have e9 : IntKind.i64.wrap (ar + 1) = ar + 1 := IntWalk.i64_in _ (by omega)
          go_region_law
            (first
              | (go_simp; go_at_call 39; (with_reducible refine IH.out.mono ?_); rintro e w3 hq; obtain ⟨v, A9, cap9, r2, bad2, he, h1, h2, h3, h4⟩ := POST.out _ _ hq; subst he; have HN1 := Lib.hid h1; have HN2 := Lib.hid h2; have HN3 := Lib.hid h3; have HN4 := Lib.hid h4; obtain ⟨n1, n2, n3, n4⟩ := NX.out w3 v A9 cap9 h1; have HN5 := Lib.hid n3; have HSRC := Lib.hid (heap_alloc_new w3 (.cells #[.int .i64 v.k, .int .i64 v.n, .string v.s, .slice A9 v.l.len cap9] 24)); have s3 := (KEEP.out _ n1).1; have s4 := (KEEP.out _ n2).1; clear hq h1 h2 h3 h4 n3)
              | (refine step_val ?_ (.tmp 129) (.tmp 134) ?_ (w2.heap.size + 1) w3.heap.size o E ⟨v, A9, cap9⟩ ?_ ?_ HN5.out HSRC.out ?_ ?_ ?_; (rfl); (rfl); (rfl); (rfl); (omega); (simp; omega); intro v5 w5 ho5 hg5 hat5; obtain ⟨A5, m5, c5, rfl⟩ := ho5.slice; have HO5 := Lib.hid ho5; have HG5 := Lib.hid hg5; have HAT := Lib.hid hat5; have n5 := (hg5.block w2.heap.size (by simp; omega) (fun e => by have := (HOW.out _ e.symm).1; omega)).trans n2; have s5 := (KEEP.out _ n5).1; have s6 := (KEEP.out _ n5).2; clear ho5 hg5 hat5))

          all_goals
            go_wp2
            go_roundw
            case rel =>
              have hlt3 : w3.heap.size < (w3.alloc (.cells #[.int .i64 v.k, .int .i64 v.n, .string v.s, .slice A9 v.l.len cap9] 24)).heap.size := by simp
              have hz5 : (w3.alloc (.cells #[.int .i64 v.k, .int .i64 v.n, .string v.s, .slice A9 v.l.len cap9] 24)).heap.size ≤ w5.heap.size := HG5.out.size
              have hz2w := lt_of_block HQ2.out
              have h53 : ∀ i, i < w3.heap.size → o.ownBlock ≠ some i → (w5.setCell ⟨w2.heap.size, 3, none⟩ (.slice A5 m5 c5)).heap.size = w5.heap.size ∧ (i ≠ w2.heap.size → (w5.setCell ⟨w2.heap.size, 3, none⟩ (.slice A5 m5 c5)).heap[i]? = w3.heap[i]?) := fun i hi ho => ⟨by simp [World.setCell], fun hne => (Below.heap_setCell _ _ _ _ hne).trans ((HG5.out.block i (by omega) (Ne.symm ho)).trans (Below.heap_alloc _ _ _ hi))⟩
              have hsz5 : (w5.setCell ⟨w2.heap.size, 3, none⟩ (.slice A5 m5 c5)).heap.size = w5.heap.size := by simp [World.setCell]
              have hlow : ∀ i, i < w2.heap.size → (w5.setCell ⟨w2.heap.size, 3, none⟩ (.slice A5 m5 c5)).heap[i]? = w3.heap[i]? := fun i hi => (h53 i (by omega) (fun e => by have := (HOW.out i e).1; omega)).2 (by omega)
              have hown : ∀ g, (Value.slice A5 m5 c5).ownBlock = some g → o.ownBlock = some g ∨ w3.heap.size < g := fun g hg => by
                rcases HAT.out with e | e
                · exact .inl (by rw [← e]; exact hg)
                · refine .inr ?_
                  rw [hg] at e
                  injection e with e
                  omega
              refine ⟨k + 1, E ++ [⟨v, A9, cap9⟩], r2, bad2, .slice A5 m5 c5, rfl, by omega, blk_set (n5.trans HBX.out) 3 _, ?_, ?_, by simp [HE.out], ?_, ?_, HN3.out, fun hb2 => ?_⟩
              · exact (hlow _ hz2w).trans ((HN1.out.block _ (by omega) (by intro e; injection e; omega)).trans HQR.out)
              · exact HO5.out.kept fun g hg => Below.heap_setCell _ _ _ _ (by have := (World.ownsRow.lt HO5.out g hg).1; show g ≠ w2.heap.size; omega)
              · obtain ⟨A0, c0, a0, hc0, hb0, hd0, ha0⟩ := HN2.out
                exact ⟨A0, c0, a0, (hlow _ (by omega)).trans hc0, hb0.keep fun i hi => ⟨hi, hlow i (by omega)⟩, hd0, ha0⟩
              · refine ⟨HG5.out.os.trans (HN1.out.os.trans HG.out.os), HG5.out.tape.trans (HN1.out.tape.trans HG.out.tape), HG5.out.output.trans (HN1.out.output.trans HG.out.output), by have := HG.out.size; omega, fun i hi hne => ?_⟩
                exact (hlow i (by omega)).trans ((HN1.out.block i (by omega) hne).trans (HG.out.block i hi hne))
              · obtain ⟨p1, p2, p3⟩ := HN4.out hb2
                refine ⟨by omega, fun e he => ?_, by rw [p3]; simp⟩
                rcases List.mem_append.1 he with he | he
                · refine ((HGOOD.out trivial).2.1 e he).keep fun i hi => ⟨⟨hi.1, by omega, fun hh => ?_⟩, ((h53 i (by omega) hi.2.2).2 (by omega)).trans (HN1.out.block i hi.2.1 (by intro e; injection e; omega))⟩
                  rcases hown i hh with h | h
                  · exact hi.2.2 h
                  · omega
                · rw [List.mem_singleton.1 he]
                  refine p2.keep fun i hi => ⟨⟨by omega, by omega, fun hh => ?_⟩, (h53 i hi.2 (fun e => by have := HOW.out i e; omega)).2 (by omega)⟩
                  rcases hown i hh with h | h
                  · have := HOW.out i h; omega
                  · omega
            case measure => simp [intOf]; omega
        · obtain ⟨Ao, co, rfl⟩ := HO.out.form
          have hx := fun ua ub uc ud => setq4 HRD.out HG.out hlt hB ua ub uc ud
          have HX := Lib.hid hx
          clear hx
          have hval4 : Ending.returned (.agg #[.int .i64 3, .int .i64 0, .string ⟨#[]⟩, .slice Ao E.length co]) = .returned (V.val ⟨3, 0, ⟨#[]⟩, F.ofList (E.map El.v)⟩ Ao co) := by
            show _ = Ending.returned (.agg #[.int .i64 3, .int .i64 0, .string ⟨#[]⟩, .slice Ao (F.ofList (E.map El.v)).len co])
            rw [len_ofList, List.length_map]
          cases bad with
          | true =>
            have hfin : ∀ ua ub uc ud, QPost rb B L w R (.returned (.agg #[.int .i64 3, .int .i64 0, .string ⟨#[]⟩, .slice Ao E.length co])) ((((wr.setCell ⟨w.heap.size, 0, none⟩ ua).setCell ⟨w.heap.size, 1, none⟩ ub).setCell ⟨w.heap.size, 2, none⟩ uc).setCell ⟨w.heap.size, 3, none⟩ ud) := fun ua ub uc ud => by
              refine ⟨(HX.out ua ub uc ud).2, ?_⟩
              rw [HBAD.out rfl]
              exact ⟨⟨3, 0, ⟨#[]⟩, F.ofList (E.map El.v)⟩, Ao, co, l', hval4, (HX.out ua ub uc ud).1⟩
            have FIN := Lib.hid hfin
            clear hfin hval4 hgo
            by_cases hlt2 : k < u
            all_goals
              go_wp2_with fail
              exact bodyPost_ret (v := .agg #[.int .i64 3, .int .i64 0, .string ⟨#[]⟩, .slice Ao E.length co]) (by simp [results, Try.results39, go_sem, k0, k1, k2, k3]) rfl (FIN.out _ _ _ _)
          | false =>
            have hlt2 : ¬ k < u := fun h => hgo ⟨h, rfl⟩
            have hfin : ∀ ua ub uc ud, QPost rb B L w R (.returned (.agg #[.int .i64 3, .int .i64 0, .string ⟨#[]⟩, .slice Ao E.length co])) ((((wr.setCell ⟨w.heap.size, 0, none⟩ ua).setCell ⟨w.heap.size, 1, none⟩ ub).setCell ⟨w.heap.size, 2, none⟩ uc).setCell ⟨w.heap.size, 3, none⟩ ud) := fun ua ub uc ud => by
              obtain ⟨_, hel, hRR⟩ := HGOOD.out rfl
              refine ⟨(HX.out ua ub uc ud).2, ?_⟩
              rw [hRR, show u - k = 0 from by omega]
              obtain ⟨A2, cap2, hv2, hsl⟩ := OwnV.sl (S := fun b => w2.heap.size < b ∧ b < wr.heap.size) HO.out (fun g hg => ⟨by have := (World.ownsRow.lt HO.out g hg).1; omega, (World.ownsRow.lt HO.out g hg).2⟩) (fun e he => (hel e he).keep fun i hi => ⟨⟨hi.1, hi.2.1⟩, rfl⟩)
              injection hv2 with h1 _ h3
              subst h1 h3
              have hq2 := lt_of_block HQ2.out
              simp only [manyP, joinP, lst, Option.map, List.append_nil]
              refine ⟨_, _, hval4, ⟨(⟨by decide, by decide, by decide, by decide, Nat.zero_le _⟩ : Fits 3 0 ⟨#[]⟩), hsl.keep fun i hi => ⟨⟨by omega, by simpa [World.setCell] using hi.2⟩, ?_⟩⟩, (HX.out ua ub uc ud).1⟩
              have hne : i ≠ w.heap.size := by omega
              exact (Below.heap_setCell _ _ _ _ hne).trans ((Below.heap_setCell _ _ _ _ hne).trans ((Below.heap_setCell _ _ _ _ hne).trans (Below.heap_setCell _ _ _ _ hne)))
            have FIN := Lib.hid hfin
            clear hfin hval4 hgo
            go_wp2_with fail
            exact bodyPost_ret (v := .agg #[.int .i64 3, .int .i64 0, .string ⟨#[]⟩, .slice Ao E.length co]) (by simp [results, Try.results39, go_sem, k0, k1, k2, k3]) rfl (FIN.out _ _ _ _)
    · have HRN : Hid (R = none) := by
        show R = none
        by_cases h0 : d = 0
        · exact HV0.out h0
        · obtain ⟨d', rfl⟩ : ∃ d', d = d' + 1 := ⟨d - 1, by omega⟩
          rw [HVS.out d' u l1 rfl hn]
          cases hmm : manyP (valP d') u l1 with
          | none => rfl
          | some x => exact absurd (many_le _ (fun l v l2 h => valP_lt _ l v l2 h) _ _ _ hmm) (by omega)
      have HE := Lib.hid (fun n => bad_end HQ.out HG2.out hlt hB hq2 R HRN.out n)
      have K := Lib.hid (fun n => res_cells (HE.out n).1)
      have k0 := fun n => (K.out n).1
      have k1 := fun n => (K.out n).2.1
      have k2 := fun n => (K.out n).2.2.1
      have k3 := fun n => (K.out n).2.2.2.1
      have g0 := fun n => (K.out n).2.2.2.2.1
      have g1 := fun n => (K.out n).2.2.2.2.2.1
      have g2 := fun n => (K.out n).2.2.2.2.2.2.1
      have g3 := fun n => (K.out n).2.2.2.2.2.2.2
      by_cases hle : u ≤ l1.length
      · have hdd : decide (l1.length < u) = false := by simpa using hle
        have h16' : (ar == 16) = true := by rw [h16]; simp; omega
        clear hq2 hn hle h16 hok
        go_wp2_with fail
        go_quiet (fail)
        go_wp2_with fail
        exact bodyPost_ret (v := .agg zero4) (by simp [results, Try.results39, go_sem, k0, k1, k2, k3]) rfl ((HE.out _).2 _ _ _ _)
      · have hdd : decide (l1.length < u) = true := by simpa using hle
        clear hq2 hn hle h16 hok
        go_wp2_with fail
        go_quiet (fail)
        go_wp2_with fail
        exact bodyPost_ret (v := .agg zero4) (by simp [results, Try.results39, go_sem, k0, k1, k2, k3]) rfl ((HE.out _).2 _ _ _ _)
end Go.Proofs.Ytomiacedailmaaa
