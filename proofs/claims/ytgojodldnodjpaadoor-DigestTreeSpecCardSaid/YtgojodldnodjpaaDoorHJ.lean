/- Digest: leaves, nodes, chains. -/
import Derived.Test.YtgojodldnodjpaaDoorHI
import Derived.Deep.RegionLaw
namespace Go.Proofs.YtgojodldnodjpaaDoor
open Go.RowKit

def leafT : ByteArray := ⟨#[108, 101, 97, 102]⟩
def nodeT : ByteArray := ⟨#[110, 111, 100, 101]⟩
def chainT : ByteArray := ⟨#[99, 104, 97, 105, 110]⟩
def emptyT : ByteArray := ⟨#[101, 109, 112, 116, 121]⟩
def leafd (d : List UInt8) : List UInt8 := tagd leafT.data.toList d
def noded (a b : List UInt8) : List UInt8 := tagd nodeT.data.toList (a ++ b)
def chaind (a b : List UInt8) : List UInt8 := tagd chainT.data.toList (a ++ b)
def emptyd : List UInt8 := tagd emptyT.data.toList []

/-- a result variable and boxes behind it -/
theorem box1 (w : World) (c : Array Value) (t : TypeId) (W1 : World) (h : w.alloc (.cells c t) = W1) : W1.heap[w.heap.size]? = some (.cells c t (0, 0)) ∧ Below w.heap.size w W1 ∧ W1.heap.size = w.heap.size + 1 := by
  subst h
  exact ⟨heap_alloc_new w _, (Below.refl _ _).alloc (Nat.le_refl _) _, by simp⟩
theorem box2 (w : World) (c d : Array Value) (t u : TypeId) (W1 : World) (h : (w.alloc (.cells c t)).alloc (.cells d u) = W1) :
    W1.heap[w.heap.size]? = some (.cells c t (0, 0)) ∧ W1.heap[w.heap.size + 1]? = some (.cells d u (0, 0)) ∧ Below w.heap.size w W1 ∧ W1.heap.size = w.heap.size + 2 := by
  obtain ⟨h1, h2, h3⟩ := box1 w c t _ rfl
  obtain ⟨k1, k2, k3⟩ := box1 _ d u W1 h
  rw [h3] at k1 k2 k3
  exact ⟨(k2.block _ (by omega)).trans h1, k1, h2.trans (k2.mono (by omega)), k3⟩
theorem box3 (w : World) (c d f : Array Value) (t u v : TypeId) (W1 : World) (h : ((w.alloc (.cells c t)).alloc (.cells d u)).alloc (.cells f v) = W1) :
    W1.heap[w.heap.size]? = some (.cells c t (0, 0)) ∧ W1.heap[w.heap.size + 1]? = some (.cells d u (0, 0)) ∧ W1.heap[w.heap.size + 2]? = some (.cells f v (0, 0)) ∧ Below w.heap.size w W1 ∧ W1.heap.size = w.heap.size + 3 := by
  obtain ⟨h1, h2, h3, h4⟩ := box2 w c d t u _ rfl
  obtain ⟨k1, k2, k3⟩ := box1 _ f v W1 h
  rw [h4] at k1 k2 k3
  exact ⟨(k2.block _ (by omega)).trans h1, (k2.block _ (by omega)).trans h2, k1, h3.trans (k2.mono (by omega)), k3⟩

/-- the store of a digest, as a region's walk meets it -/
theorem st_row (w : World) (g : Nat) (t : TypeId) (l l' : List UInt8) (h : RowB w g t l) (hl : l.length = 32) (hl' : l'.length = 32) :
    (storeVar 26 ⟨g, 0, none⟩ (.agg (U l').toArray)).run Tryd.prog w = .ok () (w.setRow g (U l').toArray) ∧
    (storeCells ⟨g, 0, none⟩ (U l') 0).run Tryd.prog w = .ok () (w.setRow g (U l').toArray) := by
  have h1 := run_storeVar_row (P := Tryd.prog) w g t 26 _ (U l').toArray h (by rw [sz32, U_size, hl']) (by rw [U_size, U_size, hl, hl']) (U_ones l')
  refine ⟨h1, ?_⟩
  cases hq : Tryd.prog.info? 26 with
  | none =>
    have := sz32
    rw [hq] at this
    cases this
  | some i =>
    have hs : i.size = 32 := by
      have := sz32
      rw [hq] at this
      simpa using this
    have hu : (U l').length = 32 := by rw [U_length, hl']
    simpa [storeVar, sizeOf, typeInfo, hq, Value.cells, hs, hu] using h1
theorem max32 : 32 ≤ maxLen := by simp only [maxLen]; omega

set_option maxRecDepth 100000 in
set_option maxHeartbeats 1600000 in
theorem leaf_all (d : List UInt8) (w : World) (hd : d.length = 32) (hk : KR w Kt) :
    Calls Tryd.prog 34 #[.agg (U d).toArray] w fun e w' => e = .returned (.agg (U (leafd d)).toArray) ∧ Below w.heap.size w w' := by
  have HK := Lib.hid hk
  have hlt0 := hk.lt
  have HD := Lib.hid hd
  clear hk hd
  go_enter Tryd.func34, Tryd.ntmps34
  go_wp2_with fail
  generalize hW1 : (w.alloc _).alloc _ = W1
  obtain ⟨h0, h1, hb1, hz1⟩ := box2 w (U d).toArray (U (flb 32 [])).toArray 26 26 W1 hW1
  clear hW1
  have C := tagged_all leafT d (some ⟨w.heap.size, 0, none⟩) d.length W1 (by decide) (by rw [HD.out]; omega) (((show RowB W1 w.heap.size 26 d from h0).byt (by rw [HD.out]; exact max32)).keep fun i hi => ⟨by omega, rfl⟩) (HK.out.keep (hb1.block 0 hlt0))
  rw [HD.out] at C
  refine C.mono ?_
  rintro e w2 ⟨rfl, hb2⟩
  have hd2 : RowB w2 (w.heap.size + 1) 26 (flb 32 []) := (hb2.block _ (by omega)).trans h1
  have hr2 := hd2.setRow (tagd leafT.data.toList d)
  have HB2 := Lib.hid (hb1.trans (hb2.mono (by omega)))
  clear h0 h1 hb1 C hb2
  go_wp2_with (refine store_B rfl (.tmp 2) (.tmp 4) rfl (w.heap.size + 1) (flb 32 []) (tagd leafT.data.toList d) rfl rfl 26 hd2 (tagd_len _ _) (by simp [flb]) ?_)
  exact bodyPost_ret (res_B rfl _ _ _ _ _ rfl hr2 (tagd_len _ _)) rfl ⟨rfl, below_setRow HB2.out (by omega) _⟩

set_option maxRecDepth 100000 in
set_option maxHeartbeats 1600000 in
theorem pair_all (s : ByteArray) (a b : List UInt8) (w : World) (hs : s.size ≤ 1000000) (ha : a.length = 32) (hb : b.length = 32) (hk : KR w Kt) :
    Calls Tryd.prog 45 #[.string s, .agg (U a).toArray, .agg (U b).toArray] w fun e w' => e = .returned (.agg (U (tagd s.data.toList (a ++ b))).toArray) ∧ Below w.heap.size w w' := by
  have HK := Lib.hid hk
  have hlt0 := hk.lt
  have HA := Lib.hid ha
  have HB := Lib.hid hb
  clear hk ha hb
  go_enter Tryd.func45, Tryd.ntmps45
  go_wp2_with fail
  generalize hW1 : ((w.alloc _).alloc _).alloc _ = W1
  obtain ⟨h0, h1, h2, hb1, hz1⟩ := box3 w (U a).toArray (U b).toArray (U (flb 32 [])).toArray 26 26 26 W1 hW1
  clear hW1
  have ra : RowB W1.drew w.heap.size 26 a := h0
  have rb : RowB W1.drew (w.heap.size + 1) 26 b := h1
  have rd : RowB W1.drew (w.heap.size + 2) 26 (flb 32 []) := h2
  have hbd : Below w.heap.size w W1.drew := hb1.drew
  have hzd : W1.drew.heap.size = w.heap.size + 3 := hz1
  clear h0 h1 h2 hb1
  have HRA := Lib.hid ra
  have HRD := Lib.hid rd
  have HBD := Lib.hid hbd
  have HBY := Lib.hid ((rb.byt (by rw [HB.out]; exact max32)).keep (w' := W1.drew) (S' := (· = w.heap.size + 1)) fun i hi => ⟨hi, rfl⟩)
  rw [HB.out] at HBY
  clear ra rb rd hbd
  have ct : ∀ A4 c4 w4, Byt w4 (fun i => i = w.heap.size ∨ (W1.drew.heap.size ≤ i ∧ i < w4.heap.size)) (a ++ b) A4 c4 → Below W1.drew.heap.size W1.drew w4 →
      Calls Tryd.prog 14 #[.string s, .slice A4 (a.length + b.length) c4] w4 fun e w' => e = .returned (.agg (U (tagd s.data.toList (a ++ b))).toArray) ∧ RowB w' (w.heap.size + 2) 26 (flb 32 []) ∧ Below w.heap.size w w' := by
    intro A4 c4 w4 hy hb
    have hz := hb.size
    have hbw : Below w.heap.size w w4 := HBD.out.trans (hb.mono (by omega))
    have := tagged_all s (a ++ b) A4 c4 w4 hs (by rw [List.length_append, HA.out, HB.out]; omega) (hy.keep fun i hi => ⟨by
      rcases hi with rfl | hi
      · omega
      · exact hi.2, rfl⟩) (HK.out.keep (hbw.block 0 hlt0))
    rw [List.length_append] at this
    refine this.mono fun e w' ⟨he, hb'⟩ => ⟨he, HRD.out.keep ((hb'.block _ (by omega)).trans (hb.block _ (by omega))), hbw.trans (hb'.mono (by omega))⟩
  have CT := Lib.hid ct
  clear ct
  have hul : (U (tagd s.data.toList (a ++ b))).length = 32 := by rw [U_length, tagd_len]
  go_region_law
    (first
      | (refine step_app_row rfl (.tmp 8) (.tmp 9) rfl w.heap.size 32 (· = w.heap.size + 1) (some ⟨w.heap.size + 1, 0, none⟩) 32 a b 26 rfl HA.out.symm (by rw [HB.out]; rfl) HRA.out HBY.out (by rw [HA.out, HB.out]; omega) ?_; intro A4 c4 w4 hy4 hb4; have HY4 := Lib.hid hy4; have HB4 := Lib.hid hb4; clear hy4 hb4)
      | (go_simp; go_at_call 14; (with_reducible refine (CT.out _ _ _ HY4.out HB4.out).mono ?_); rintro e w5 ⟨rfl, hr5, hb5⟩; obtain ⟨hst1, hst2⟩ := st_row w5 _ _ _ _ hr5 (by simp [flb]) (tagd_len s.data.toList (a ++ b)); have HR5 := Lib.hid hr5; have HB5 := Lib.hid hb5; clear hr5 hb5))
  have hr6 := HR5.out.setRow (tagd s.data.toList (a ++ b))
  clear hst1 hst2
  go_wp2_with fail
  exact bodyPost_ret (res_B rfl _ _ _ _ _ rfl hr6 (tagd_len _ _)) rfl ⟨rfl, below_setRow HB5.out (by omega) _⟩

set_option maxRecDepth 100000 in
set_option maxHeartbeats 1600000 in
theorem node_all (a b : List UInt8) (w : World) (ha : a.length = 32) (hb : b.length = 32) (hk : KR w Kt) :
    Calls Tryd.prog 36 #[.agg (U a).toArray, .agg (U b).toArray] w fun e w' => e = .returned (.agg (U (noded a b)).toArray) ∧ Below w.heap.size w w' := by
  have HK := Lib.hid hk
  have hlt0 := hk.lt
  have HA := Lib.hid ha
  have HB := Lib.hid hb
  clear hk ha hb
  obtain ⟨h0, h1, h2, hb1, hz1⟩ := box3 w (U a).toArray (U b).toArray (U (flb 32 [])).toArray 26 26 26 _ rfl
  have ra : RowB _ w.heap.size 26 a := h0
  have rb : RowB _ (w.heap.size + 1) 26 b := h1
  have C := Lib.hid (pair_all nodeT a b _ (by decide) HA.out HB.out (HK.out.keep (hb1.block 0 hlt0)))
  have HB1 := Lib.hid hb1
  have HZ1 := Lib.hid hz1
  have H2 := Lib.hid h2
  clear h0 h1 h2 hb1 hz1
  go_enter Tryd.func36, Tryd.ntmps36
  go_wp2_with (first
    | (refine load_B rfl (.tmp 2) rfl w.heap.size rfl 26 a ra HA.out ?_)
    | (refine load_B rfl (.tmp 3) rfl (w.heap.size + 1) rfl 26 b rb HB.out ?_))
  refine C.out.mono ?_
  rintro e w2 ⟨rfl, hb2⟩
  have hz2 := hb2.size
  rw [HZ1.out] at hz2
  have hd2 : RowB w2 (w.heap.size + 2) 26 (flb 32 []) := (hb2.block _ (by rw [HZ1.out]; omega)).trans H2.out
  have hr2 := hd2.setRow (noded a b)
  have HB2 := Lib.hid (HB1.out.trans (hb2.mono (by rw [HZ1.out]; omega)))
  clear C hb2 ra rb HB1 HZ1 H2
  go_wp2_with (refine store_B rfl (.tmp 4) (.tmp 7) rfl (w.heap.size + 2) (flb 32 []) (noded a b) rfl rfl 26 hd2 (tagd_len _ _) (by simp [flb]) ?_)
  exact bodyPost_ret (res_B rfl _ _ _ _ _ rfl hr2 (tagd_len _ _)) rfl ⟨rfl, below_setRow HB2.out (by omega) _⟩

set_option maxRecDepth 100000 in
set_option maxHeartbeats 1600000 in
theorem chain_all (a b : List UInt8) (w : World) (ha : a.length = 32) (hb : b.length = 32) (hk : KR w Kt) :
    Calls Tryd.prog 25 #[.agg (U a).toArray, .agg (U b).toArray] w fun e w' => e = .returned (.agg (U (chaind a b)).toArray) ∧ Below w.heap.size w w' := by
  have HK := Lib.hid hk
  have hlt0 := hk.lt
  have HA := Lib.hid ha
  have HB := Lib.hid hb
  clear hk ha hb
  obtain ⟨h0, h1, h2, hb1, hz1⟩ := box3 w (U a).toArray (U b).toArray (U (flb 32 [])).toArray 26 26 26 _ rfl
  have ra : RowB _ w.heap.size 26 a := h0
  have rb : RowB _ (w.heap.size + 1) 26 b := h1
  have C := Lib.hid (pair_all chainT a b _ (by decide) HA.out HB.out (HK.out.keep (hb1.block 0 hlt0)))
  have HB1 := Lib.hid hb1
  have HZ1 := Lib.hid hz1
  have H2 := Lib.hid h2
  clear h0 h1 h2 hb1 hz1
  go_enter Tryd.func25, Tryd.ntmps25
  go_wp2_with (first
    | (refine load_B rfl (.tmp 2) rfl w.heap.size rfl 26 a ra HA.out ?_)
    | (refine load_B rfl (.tmp 3) rfl (w.heap.size + 1) rfl 26 b rb HB.out ?_))
  refine C.out.mono ?_
  rintro e w2 ⟨rfl, hb2⟩
  have hz2 := hb2.size
  rw [HZ1.out] at hz2
  have hd2 : RowB w2 (w.heap.size + 2) 26 (flb 32 []) := (hb2.block _ (by rw [HZ1.out]; omega)).trans H2.out
  have hr2 := hd2.setRow (chaind a b)
  have HB2 := Lib.hid (HB1.out.trans (hb2.mono (by rw [HZ1.out]; omega)))
  clear C hb2 ra rb HB1 HZ1 H2
  go_wp2_with (refine store_B rfl (.tmp 4) (.tmp 7) rfl (w.heap.size + 2) (flb 32 []) (chaind a b) rfl rfl 26 hd2 (tagd_len _ _) (by simp [flb]) ?_)
  exact bodyPost_ret (res_B rfl _ _ _ _ _ rfl hr2 (tagd_len _ _)) rfl ⟨rfl, below_setRow HB2.out (by omega) _⟩

end Go.Proofs.YtgojodldnodjpaaDoor
