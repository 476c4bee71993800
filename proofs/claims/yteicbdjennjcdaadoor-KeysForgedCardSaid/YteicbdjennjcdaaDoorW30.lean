/- Several texts joined: parts XO JK XOD XOE. -/
import Derived.Test.YteicbdjennjcdaaDoorW03
import Derived.Test.YteicbdjennjcdaaDoorTie
import Derived.Test.YteicbdjennjcdaaDoorCards
import Derived.ProofKit
import Derived.OpenShut
import Derived.JoinedCond
import Derived.Deep.Slices
import Derived.Deep.Fields
import Derived.LaidMore
import Derived.Stop.Joined
import Derived.SevenTiedAt
import Derived.ChangeMaps5
import Derived.WideKeyArr2
import Derived.Test.YteicbdjennjcdaaDoorW14
import Derived.Deep.Strs
import Derived.Carry
namespace Go.Proofs.YteicbdjennjcdaaDoor
section
set_option maxRecDepth 100000
open Go.ChangeShapes Go.WideShapes Go.ChangeAt Go.WideElems Go.RowKit

theorem prog_own : ownKnob Tryd.prog.godebug = none := by kernel_rfl
theorem prog_laid : laidOutB Tryd.prog = true := by kernel_rfl
theorem cells_u8 : Tryd.prog.cellsOf 5 = 1 := by kernel_rfl
theorem p_bytes : Tryd.prog.readableRec 62 = true ∧ 62 < Tryd.prog.types.size := ⟨by kernel_rfl, of_decide_eq_true (by kernel_rfl)⟩
theorem p_byte : Tryd.prog.readableRec 5 = true ∧ 5 < Tryd.prog.types.size := ⟨by kernel_rfl, of_decide_eq_true (by kernel_rfl)⟩
theorem p_string : Tryd.prog.readableRec 9 = true ∧ 9 < Tryd.prog.types.size := ⟨by kernel_rfl, of_decide_eq_true (by kernel_rfl)⟩
theorem p_int : Tryd.prog.readableRec 3 = true ∧ 3 < Tryd.prog.types.size := ⟨by kernel_rfl, of_decide_eq_true (by kernel_rfl)⟩
theorem p_digest : Tryd.prog.readableRec 23 = true ∧ 23 < Tryd.prog.types.size := ⟨by kernel_rfl, of_decide_eq_true (by kernel_rfl)⟩

section
variable {H : Type} {enc : TypeId × Value → H}

theorem open_bytes {W : World} {cs : List Value} {x : DataW H × List MemPlace} {fuel : Nat} (h : DataW.trod enc Tryd.prog W 0 (fun _ => true) true fuel 62 cs = some x) :
    ∃ (l : List UInt8) (A : Option Addr) (cap : Nat), cs = [.slice A l.length cap] ∧ Byt W (· < W.heap.size) l A cap := by
  rcases DataW.trod_slice Tryd.underlying62 h with ⟨rfl, _⟩ | ⟨a, len, cap, elems, rest, n', hn, rfl, _, _, hl, hm, hel, hi, _⟩
  · exact ⟨[], none, 0, rfl, Nat.le_refl _, Nat.zero_le _, fun _ => rfl, fun h => absurd h (by simp)⟩
  · rw [cells_u8] at hi
    have he : ∀ i, i < len → ∃ c : UInt8, W.cell? (a.add i) = some (.int .u8 c.toNat) := fun i hlt => by
      have h1 := hi i hlt
      rw [List.getElem?_eq_getElem (by omega)] at h1
      obtain ⟨cs, hc, ht⟩ := Option.bind_eq_some_iff.1 h1
      obtain ⟨k, rfl, _, wk⟩ := DataW.trod_int Tryd.underlying5 ht
      have bk := bounds_u8 wk
      have := (World.cells?_some hc).2.2 0 (by omega)
      rw [Go.Deep.add_add] at this
      refine ⟨UInt8.ofNat k.toNat, ?_⟩
      simp only [Nat.mul_one, Nat.add_zero] at this
      rw [this]
      have e : ((UInt8.ofNat k.toNat).toNat : Int) = k := by simp; omega
      rw [e]
      rfl
    obtain ⟨f, hf⟩ := Go.Deep.choose_lt he
    rcases Nat.eq_zero_or_pos len with rfl | hp
    · exact ⟨[], some a, cap, rfl, hl, hm, (fun e => by cases e), fun h => absurd h (by simp)⟩
    · obtain ⟨b, o, spot⟩ := a
      have hspot : spot = none := by
        have := hf 0 hp
        exact World.cell?_spot (w := W) (a := ⟨b, o, spot⟩) (by simpa [Addr.add] using this)
      subst hspot
      refine ⟨(List.range len).map f, some ⟨b, o, none⟩, cap, by simp, by simpa using hl, hm, (fun e => by cases e), fun _ => ⟨b, o, rfl, ?_, fun i u hu => ?_⟩⟩
      · have := hf 0 hp
        rw [add_plain] at this
        exact World.block_lt_of_cell? W ⟨b, o + 0, none⟩ this
      · have hlt : i < len := by
          by_cases h : i < len
          · exact h
          · rw [List.getElem?_eq_none (by simp [U]; omega)] at hu; cases hu
        have := hf i hlt
        rw [add_plain] at this
        rw [this, ← hu]
        simp [U, hlt]
theorem arg_bytes {W : World} {r : Reach} {b0 : Nat} {v : Value} {d : DataW H} {ps : List MemPlace} (hval : Value.okWide Tryd.prog W r b0 62 v) (hd : DataW.Trod enc Tryd.prog W 0 (fun _ => true) true 62 v d ps) :
    ∃ (l : List UInt8) (A : Option Addr) (cap : Nat), v = .slice A l.length cap ∧ Byt W (· < W.heap.size) l A cap := by
  obtain ⟨a, n, c, rfl⟩ := okWide_slice Tryd.underlying62 hval
  obtain ⟨fuel, hf⟩ := hd
  obtain ⟨l, A, cap, e, hr⟩ := open_bytes hf
  have e : [Value.slice a n c] = [Value.slice A l.length cap] := e
  injection e with e _
  exact ⟨l, A, cap, e, hr⟩
theorem trodAll_behind {W W' : World} (hb : Below W.heap.size W W') : ∀ (ts : List TypeId) (vs : List Value) (ds : List (DataW H)) (ps : List MemPlace), (∀ t ∈ ts, Tryd.prog.readableRec t = true ∧ t < Tryd.prog.types.size) →
    DataW.TrodAll enc Tryd.prog W 0 (fun _ => true) true ts vs ds ps → DataW.TrodAll enc Tryd.prog W' 0 (fun b => decide (b < W.heap.size)) true ts vs ds ps
  | [], [], [], _, _, h => h
  | t :: ts, v :: vs, d :: ds, _, ht, ⟨p, q, h1, h2, e⟩ =>
    ⟨p, q, Below.trod prog_laid (ht t (List.mem_cons_self ..)).1 (ht t (List.mem_cons_self ..)).2 h1 hb (by obtain ⟨n, hn⟩ := h1; exact (DataW.TrodAll.lt (ts := [t]) (vs := [v]) (ds := [d]) ⟨p, [], ⟨n, hn⟩, rfl, by simp⟩)),
      trodAll_behind hb ts vs ds q (fun t h => ht t (List.mem_cons_of_mem _ h)) h2, e⟩

/-- the law's last step: it answered true, and of what was there nothing has turned -/
theorem law_post {f : Func} {s : ChangeSpec} {W W' : World} {args : Array Value} {ds gs : List (DataW H)} {before : List MemPlace} (hv : s.vars = [])
    (hs : ∀ ds : List (DataW H), ds.length = f.params.size → s.fn H ds = { results := [.lit (.bool true)], args := ds }) (hrt : f.resultTypes = #[4]) (hp : ∀ t ∈ f.params.toList, Tryd.prog.readableRec t = true ∧ t < Tryd.prog.types.size) (hl : ds.length = f.params.size)
    (hW : DataW.Whole enc Tryd.prog f.params.toList s.vars false W args.toList ds gs before) (hb : Below W.heap.size W W') :
    s.post enc Tryd.prog f false true false false W args (.bool true) W' := by
  have hW' := hW
  obtain ⟨p, q, hA, hV, rfl, hz, hn⟩ := hW
  rw [hv] at hV
  obtain ⟨rfl, rfl⟩ := trodVars_none hV
  have hfn := hs (ds ++ []) (by simpa using hl)
  refine ⟨ds, [], p ++ [], [], p, [], hW', ?_, ?_, ?_, hb.frame _, fun h => by cases h⟩
  · rw [hrt, hfn]
    exact trodAll_mk1 (shut_bool Tryd.underlying4 true)
  · rw [hfn, List.append_nil]
    exact trodAll_behind hb _ _ _ _ hp hA
  · rw [hv, hfn]
    rfl
end


def kname : String := Rows.keysSpecRow.named.headD ""
theorem gK : Tryd.prog.globalNamed kname = some 0 := by kernel_rfl
theorem tK : (Tryd.prog.globals[0]?).map (·.type) = some 123 := by kernel_rfl

abbrev lay : List (String × DataW Unit) := [(kname, Rows.laid_testamur_digest_constants)]
theorem lay_list : (Rows.laid_testamur_digest_constants : DataW Unit) = .agg (Kt.map fun x => .lit (.int .u32 (I x))) := by kernel_rfl

theorem of_laid {W : World} (h : laidMetH Tryd.prog lay W) : KR W Kt := by
  rw [MakeChecks.laidMetH_plain _ _ _ (by kernel_rfl)] at h
  obtain ⟨ps, ⟨g0, t0, cs0, f0, p0, q0, hg0, ht0, hv0, hd0, ⟨_, _⟩, _⟩, _, _⟩ := h
  obtain rfl := Option.some.inj (gK.symm.trans hg0)
  obtain rfl := Option.some.inj (tK.symm.trans ht0)
  obtain ⟨xs, m1, rfl, hx1, hlen, hn, hel⟩ := DataW.trod_array Tryd.underlying123 hd0
  rw [lay_list] at hx1
  simp only [Prod.mk.injEq, DataW.agg.injEq] at hx1
  have c3 : Tryd.prog.cellsOf 107 = 1 := by kernel_rfl
  have hc := World.var?_cell hg0 hv0
  have hcell : ∀ i x, Kt[i]? = some x → W.cell? ⟨0, i, none⟩ = some (.int .u32 (I x)) := fun i x hx => by
    have hi : i < 64 := by
      have := (List.getElem?_eq_some_iff.1 hx).1
      rwa [Kt_len] at this
    have he := hel i hi
    obtain ⟨y, hy⟩ : ∃ y, xs[i]? = some y := ⟨_, List.getElem?_eq_getElem (by omega)⟩
    rw [hy, c3] at he
    obtain ⟨k, e1, e2, _⟩ := DataW.trod_int Tryd.underlying107 he
    have h1 : (Kt.map fun x => (DataW.lit (.int .u32 (I x)) : DataW Unit))[i]? = some (.lit (.int .u32 (I x))) := by simp [hx]
    rw [hx1.1] at h1
    have h2 : (xs.map Prod.fst)[i]? = some y.1 := by simp [hy]
    have h3 := h2.symm.trans h1
    injection h3 with h3
    rw [e2] at h3
    injection h3 with h3
    injection h3 with _ h3
    subst h3
    rw [hc, ← Array.getElem?_toList]
    rw [Nat.mul_one] at e1
    have := congrArg (fun l => l[0]?) e1
    simpa using this
  refine ⟨?_, hcell⟩
  obtain ⟨x, hx⟩ : ∃ x, Kt[0]? = some x := ⟨_, List.getElem?_eq_getElem (by rw [Kt_len]; omega)⟩
  exact World.block_lt_of_cell? W ⟨0, 0, none⟩ (hcell 0 x hx)

/-- the door's own heap meets the condition -/
theorem door_met (os : Os) (args : Array Value) : laidMetH Tryd.prog lay ((World.doorLaid Tryd.prog 14 os).forCall (fun _ _ => 0) ⟨#[], args, []⟩).memory :=
  laidMetH_of_parts3 (fuel := 8) (laidMet_of_run' 8 (by kernel_rfl) (by kernel_rfl)) (by kernel_rfl) (by kernel_rfl)
end
section
set_option maxRecDepth 100000
open Go.ChangeShapes Go.WideShapes Go.ChangeAt Go.WideElems Go.RowKit

theorem mapM_all {α β : Type} (f : α → Option β) : ∀ (L : List α) (ys : List β), L.mapM f = some ys → ∀ i ∈ L, ∃ y, f i = some y
  | [], _, _, _, h => by cases h
  | a :: L, ys, h, i, hi => by
    rw [List.mapM_cons] at h
    simp only [bind, Option.bind_eq_some_iff, pure, Option.some.injEq] at h
    obtain ⟨y, hy, zs, hzs, _⟩ := h
    rcases List.mem_cons.1 hi with rfl | hi
    · exact ⟨y, hy⟩
    · exact mapM_all f L zs hzs i hi
theorem as_bytes : ∀ vs : List Value, (∀ v ∈ vs, ∃ x : UInt8, v = .int .u8 x.toNat) → ∃ l : List UInt8, vs = U l
  | [], _ => ⟨[], rfl⟩
  | v :: vs, h => by
    obtain ⟨x, rfl⟩ := h v (List.mem_cons_self ..)
    obtain ⟨l, rfl⟩ := as_bytes vs fun v hv => h v (List.mem_cons_of_mem _ hv)
    exact ⟨x :: l, rfl⟩
theorem arg_digest {H : Type} {enc : TypeId × Value → H} {W : World} {r : Reach} {b0 : Nat} {v : Value} {d : DataW H} {ps : List MemPlace} (hval : Value.okWide Tryd.prog W r b0 23 v) (hd : DataW.Trod enc Tryd.prog W 0 (fun _ => true) true 23 v d ps) :
    ∃ l : List UInt8, l.length = 32 ∧ v = .agg (U l).toArray := by
  have AK : WideMaps.ArrKey Tryd.prog 23 5 32 := ⟨Tryd.underlying23, by kernel_rfl, by kernel_rfl, by kernel_rfl⟩
  obtain ⟨xs, rfl, hn⟩ := WideMaps.okWide_arr AK hval
  obtain ⟨fuel, hf⟩ := hd
  cases fuel with
  | zero => simp [DataW.trod] at hf
  | succ m =>
    rw [DataW.trod_step] at hf
    unfold DataW.trodStep at hf
    simp only [AK.hu, Value.cells] at hf
    rw [if_pos (by rw [AK.size]; simpa using hn)] at hf
    simp only [Option.map_eq_some_iff] at hf
    obtain ⟨ys, hy, _⟩ := hf
    rw [AK.one] at hy
    obtain ⟨l, hl⟩ := as_bytes xs.toList fun v hv => by
      obtain ⟨i, hi, e⟩ := List.getElem_of_mem hv
      obtain ⟨y, hyi⟩ := mapM_all _ _ _ hy i (List.mem_range.2 (by simpa [hn] using hi))
      obtain ⟨a, ea, _, wa⟩ := DataW.trod_int Tryd.underlying5 hyi
      have ba := bounds_u8 wa
      have h1 : ((xs.toList.drop (i * 1)).take 1) = [v] := by
        rw [Nat.mul_one, List.drop_eq_getElem_cons hi, e]
        rfl
      rw [h1] at ea
      injection ea with ea _
      refine ⟨UInt8.ofNat a.toNat, ?_⟩
      have e2 : ((UInt8.ofNat a.toNat).toNat : Int) = a := by simp; omega
      rw [e2, ea]
    have hxs : xs = (U l).toArray := by rw [← hl]
    refine ⟨l, ?_, by rw [hxs]⟩
    have := congrArg Array.size hxs
    simpa [U, hn] using this.symm
end
section
set_option maxRecDepth 100000
open Go.ChangeShapes Go.WideShapes Go.ChangeAt Go.WideElems Go.RowKit

theorem cells_dig : Tryd.prog.cellsOf 23 = 32 := by kernel_rfl
theorem p_digests : Tryd.prog.readableRec 26 = true ∧ 26 < Tryd.prog.types.size := ⟨by kernel_rfl, of_decide_eq_true (by kernel_rfl)⟩
section
variable {H : Type} {enc : TypeId × Value → H}
/-- 32 cells that can be read as a digest -/
theorem open_cells {W : World} {cs : List Value} {x : DataW H × List MemPlace} {fuel : Nat} (h : DataW.trod enc Tryd.prog W 0 (fun _ => true) true fuel 23 cs = some x) : ∃ l : List UInt8, l.length = 32 ∧ cs = U l := by
  have AK : WideMaps.ArrKey Tryd.prog 23 5 32 := ⟨Tryd.underlying23, by kernel_rfl, by kernel_rfl, by kernel_rfl⟩
  cases fuel with
  | zero => simp [DataW.trod] at h
  | succ m =>
    rw [DataW.trod_step] at h
    unfold DataW.trodStep at h
    simp only [AK.hu] at h
    by_cases hn : cs.length = 32
    · rw [if_pos (by rw [AK.size]; simpa using hn)] at h
      simp only [Option.map_eq_some_iff] at h
      obtain ⟨ys, hy, _⟩ := h
      rw [AK.one] at hy
      obtain ⟨l, hl⟩ := as_bytes cs fun v hv => by
        obtain ⟨i, hi, e⟩ := List.getElem_of_mem hv
        obtain ⟨y, hyi⟩ := mapM_all _ _ _ hy i (List.mem_range.2 (by omega))
        obtain ⟨a, ea, _, wa⟩ := DataW.trod_int Tryd.underlying5 hyi
        have ba := bounds_u8 wa
        have h1 : ((cs.drop (i * 1)).take 1) = [v] := by
          rw [Nat.mul_one, List.drop_eq_getElem_cons hi, e]
          rfl
        rw [h1] at ea
        injection ea with ea _
        refine ⟨UInt8.ofNat a.toNat, ?_⟩
        have e2 : ((UInt8.ofNat a.toNat).toNat : Int) = a := by simp; omega
        rw [e2, ea]
      exact ⟨l, by rw [← hn, hl, U_length], hl⟩
    · rw [if_neg (by rw [AK.size]; simpa using hn)] at h
      cases h
theorem open_digests {W : World} {cs : List Value} {x : DataW H × List MemPlace} {fuel : Nat} (h : DataW.trod enc Tryd.prog W 0 (fun _ => true) true fuel 26 cs = some x) :
    ∃ (L : List (List UInt8)) (A : Option Addr) (cap : Nat), cs = [.slice A L.length cap] ∧ DL W (· < W.heap.size) L A cap := by
  rcases DataW.trod_slice Tryd.underlying26 h with ⟨rfl, _⟩ | ⟨a, len, cap, elems, rest, n', hn, rfl, _, _, hl, hm, hel, hi, _⟩
  · exact ⟨[], none, 0, rfl, Nat.le_refl _, Nat.zero_le _, (fun _ => rfl), (fun d hd => by cases hd), fun h => absurd h (by simp)⟩
  · rw [cells_dig] at hi
    have he : ∀ i, i < len → ∃ d : List UInt8, d.length = 32 ∧ ∀ j u, (U d)[j]? = some u → W.cell? (a.add (i * 32 + j)) = some u := fun i hlt => by
      have h1 := hi i hlt
      rw [List.getElem?_eq_getElem (by omega)] at h1
      obtain ⟨cs, hc, ht⟩ := Option.bind_eq_some_iff.1 h1
      obtain ⟨d, hd, rfl⟩ := open_cells ht
      refine ⟨d, hd, fun j u hu => ?_⟩
      have hj : j < (U d).length := (List.getElem?_eq_some_iff.1 hu).1
      have := (World.cells?_some hc).2.2 j (by rw [U_length, hd] at hj; exact hj)
      rw [Go.Deep.add_add] at this
      rw [this, hu]
    obtain ⟨f, hf⟩ := Go.Deep.choose_lt he
    rcases Nat.eq_zero_or_pos len with rfl | hp
    · exact ⟨[], some a, cap, rfl, hl, hm, (fun e => by cases e), (fun d hd => by cases hd), fun h => absurd h (by simp)⟩
    · obtain ⟨b, o, spot⟩ := a
      obtain ⟨h0, hc0⟩ := hf 0 hp
      obtain ⟨u0, hu0⟩ : ∃ u, (U (f 0))[0]? = some u := ⟨_, List.getElem?_eq_getElem (by rw [U_length, h0]; omega)⟩
      have hspot : spot = none := by
        have := hc0 0 u0 hu0
        exact World.cell?_spot (w := W) (a := ⟨b, o, spot⟩) (by simpa [Addr.add] using this)
      subst hspot
      refine ⟨(List.range len).map f, some ⟨b, o, none⟩, cap, by simp, by simpa using hl, hm, (fun e => by cases e), ?_, fun _ => ⟨b, o, rfl, ?_, fun i d hd j u hu => ?_⟩⟩
      · intro d hd
        obtain ⟨i, hi, rfl⟩ := List.mem_map.1 hd
        exact (hf i (List.mem_range.1 hi)).1
      · have := hc0 0 u0 hu0
        rw [add_plain] at this
        exact World.block_lt_of_cell? W _ this
      · have hlt : i < len := by
          have := (List.getElem?_eq_some_iff.1 hd).1
          simpa using this
        have e : f i = d := by simpa [hlt] using hd
        have := (hf i hlt).2 j u (by rw [e]; exact hu)
        rw [add_plain] at this
        rwa [Nat.add_assoc]
theorem arg_digests {W : World} {r : Reach} {b0 : Nat} {v : Value} {d : DataW H} {ps : List MemPlace} (hval : Value.okWide Tryd.prog W r b0 26 v) (hd : DataW.Trod enc Tryd.prog W 0 (fun _ => true) true 26 v d ps) :
    ∃ (L : List (List UInt8)) (A : Option Addr) (cap : Nat), v = .slice A L.length cap ∧ DL W (· < W.heap.size) L A cap := by
  obtain ⟨a, n, c, rfl⟩ := okWide_slice Tryd.underlying26 hval
  obtain ⟨fuel, hf⟩ := hd
  obtain ⟨L, A, cap, e, hr⟩ := open_digests hf
  have e : [Value.slice a n c] = [Value.slice A L.length cap] := e
  injection e with e _
  exact ⟨L, A, cap, e, hr⟩
end
end
section
set_option maxRecDepth 100000
open Go.ChangeShapes Go.WideShapes Go.ChangeAt Go.WideElems Go.RowKit

theorem p_leaf : Tryd.prog.readableRec 28 = true ∧ 28 < Tryd.prog.types.size := ⟨by kernel_rfl, of_decide_eq_true (by kernel_rfl)⟩
section
variable {H : Type} {enc : TypeId × Value → H}
theorem trodAll_five {P : Program} {w : World} {base : Nat} {spare : Nat → Bool} {held : Bool} {t t' t'' t3 t4 : TypeId} {args : Array Value} {ds : List (DataW H)} {ps : List MemPlace} (h : DataW.TrodAll enc P w base spare held [t, t', t'', t3, t4] args.toList ds ps) :
    ∃ v v' v'' v3 v4 d d' d'' d3 d4 p p' p'' p3 p4, args = #[v, v', v'', v3, v4] ∧ ds = [d, d', d'', d3, d4] ∧ ps = p ++ p' ++ p'' ++ p3 ++ p4 ∧ DataW.Trod enc P w base spare held t v d p ∧ DataW.Trod enc P w base spare held t' v' d' p' ∧ DataW.Trod enc P w base spare held t'' v'' d'' p'' ∧ DataW.Trod enc P w base spare held t3 v3 d3 p3 ∧ DataW.Trod enc P w base spare held t4 v4 d4 p4 := by
  obtain ⟨v, vs, d, ds', p, q, hargs, rfl, rfl, hd, hrest⟩ := trodAll_cons h
  obtain ⟨v', vs', d', ds'', p', q', rfl, rfl, rfl, hd', hrest'⟩ := trodAll_cons hrest
  obtain ⟨v'', vs'', d'', ds''', p'', q'', rfl, rfl, rfl, hd'', hrest''⟩ := trodAll_cons hrest'
  obtain ⟨v3, vs3, d3, ds3, p3, q3, rfl, rfl, rfl, hd3, hrest3⟩ := trodAll_cons hrest''
  obtain ⟨v4, vs4, d4, ds4, p4, q4, rfl, rfl, rfl, hd4, hrest4⟩ := trodAll_cons hrest3
  obtain ⟨rfl, rfl, rfl⟩ := trodAll_nil hrest4
  exact ⟨v, v', v'', v3, v4, d, d', d'', d3, d4, p, p', p'', p3, p4, by cases args; simp_all, rfl, by simp, hd, hd', hd'', hd3, hd4⟩
theorem arg_leaf {W : World} {r : Reach} {b0 : Nat} {v : Value} {d : DataW H} {ps : List MemPlace} (hval : Value.okWide Tryd.prog W r b0 28 v) (hd : DataW.Trod enc Tryd.prog W 0 (fun _ => true) true 28 v d ps) :
    ∃ s : Lf, v = .agg s.cs ∧ s.ok W (· < W.heap.size) ∧ (-9223372036854775808 ≤ s.i ∧ s.i ≤ 9223372036854775807) := by
  obtain ⟨cs, rfl, hn⟩ := okWide_struct Tryd.underlying28 hval
  obtain ⟨fuel, hf⟩ := hd
  have hc3 : Tryd.prog.cellsOf 28 = 3 := by kernel_rfl
  have c1 : Tryd.prog.cellsOf 3 = 1 := by kernel_rfl
  have c2 : Tryd.prog.cellsOf 26 = 1 := by kernel_rfl
  rw [hc3] at hn
  obtain ⟨y0, y1, y2, k, _, _, g0, g1, g2⟩ := Go.Deep.trod_struct3 Tryd.underlying28 hf
  obtain ⟨x0, x1, x2, hx⟩ : ∃ x0 x1 x2, cs = #[x0, x1, x2] := by
    obtain ⟨l⟩ := cs
    match l, hn with
    | [x0, x1, x2], _ => exact ⟨x0, x1, x2, rfl⟩
  subst hx
  have e0 : (Value.agg #[x0, x1, x2]).cells.toList = [x0, x1, x2] := rfl
  rw [e0] at g0 g1 g2
  simp only [c1, c2] at g0 g1 g2
  obtain ⟨a, ea, _, wa⟩ := DataW.trod_int Tryd.underlying3 g0
  have ea1 : [x0] = [Value.int .i64 a] := ea
  injection ea1 with ea2 _
  clear ea
  obtain ⟨L, A, cap, eL, hL⟩ := open_digests g1
  have eL1 : [x1] = [Value.slice A L.length cap] := eL
  injection eL1 with eL2 _
  clear eL
  obtain ⟨M, B, cap2, eM, hM⟩ := open_digests g2
  have eM1 : [x2] = [Value.slice B M.length cap2] := eM
  injection eM1 with eM2 _
  clear eM
  subst ea2 eL2 eM2
  refine ⟨⟨a, L, M, A, cap, B, cap2⟩, rfl, ⟨hL, hM⟩, ?_⟩
  simp [Lit.wf, IntKind.min, IntKind.max, IntKind.signed, IntKind.bits] at wa
  exact ⟨by show _ ≤ a; omega, by show a ≤ _; omega⟩
end
end
end Go.Proofs.YteicbdjennjcdaaDoor
