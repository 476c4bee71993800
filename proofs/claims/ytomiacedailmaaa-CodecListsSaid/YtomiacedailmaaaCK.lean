/- Codec: what writes values, part 3: write itself, Encode, Size. -/
import Derived.Test.YtomiacedailmaaaCJ
import Derived.Shelf.Abstract
namespace Go.Proofs.Ytomiacedailmaaa
open Go.RowKit

theorem wf_cases {v : V} (h : v.wf = true) : v.k = 1 ∨ v.k = 2 ∨ (v.k = 3 ∧ v.l.wf = true) := by
  unfold V.wf wf1 at h
  split at h
  · exact .inl ‹_›
  · split at h
    · exact .inr (.inl ‹_›)
    · split at h
      · simp at h
        exact .inr (.inr ⟨‹_›, h.2⟩)
      · cases h

theorem write_all {fd ft : FuncId} {cb : Nat} {St : World → List UInt8 → Prop} (O : Out fd ft cb St) (v : V) : ∀ (A : Option Addr) (cap B : Nat) (l : List UInt8) (w : World), v.wf = true → RdV w (· < B) v A cap → B ≤ cb → St w l → l.length + v.enc.length + 20 < 1099511627776 →
    Calls Try.prog 26 #[v.val A cap, outv fd ft cb] w fun e w' => e = .returned (.tuple #[]) ∧ St w' (l ++ v.enc) ∧ Keeps cb w w' := by
  refine V.ind (P := fun v => ∀ (A : Option Addr) (cap B : Nat) (l : List UInt8) (w : World), v.wf = true → RdV w (· < B) v A cap → B ≤ cb → St w l → l.length + v.enc.length + 20 < 1099511627776 →
    Calls Try.prog 26 #[v.val A cap, outv fd ft cb] w fun e w' => e = .returned (.tuple #[]) ∧ St w' (l ++ v.enc) ∧ Keeps cb w w') (fun v ih => ?_) v
  intro A cap B l w hwf hv hB hs hl
  have hf := hv.1
  unfold Fits at hf
  rcases wf_cases hwf with hk | hk | ⟨hk, hkw⟩
  · have e : v.enc = [1] ++ numf 10 (uns v.n).toNat := by simp [V.enc, enc1, hk]
    rw [e, ← List.append_assoc]
    exact write_1 O v A cap l _ w hk (fun ww _ hst => writeInt_all O v A cap _ ww hf.2.2.1 hf.2.2.2.1 hst (by simp; omega)) hs (by omega)
  · have e : v.enc = [2] ++ (numf 10 v.s.size ++ v.s.data.toList) := by simp [V.enc, enc1, hk]
    have el : v.s.size ≤ v.enc.length := by rw [e]; simp only [List.length_append, Array.length_toList]; have : v.s.data.size = v.s.size := rfl; omega
    rw [e, ← List.append_assoc]
    exact write_2 O v A cap l _ w hk (fun ww _ hst => writeText_all O v A cap _ ww hst (by simp; omega)) hs (by omega)
  · have e : v.enc = [3] ++ (numf 10 v.l.len ++ v.l.enc) := by simp [V.enc, enc1, hk]
    have el : (numf 10 v.l.len).length + v.l.enc.length + 1 = v.enc.length := by rw [e]; simp
    have hlt := O.lt hs
    have hall : ∀ u ∈ v.l.toList, u.wf = true := by
      rw [F.wf_all, List.all_eq_true] at hkw
      exact hkw
    rw [e, ← List.append_assoc]
    exact write_3 O v A cap l _ w hk (fun ww hb hst => writeList_of O v A cap B _ ww (fun u hu A cap l w hr hs hl => ih u hu A cap B l w (hall u hu) hr hB hs hl) (hv.below (hb.mono hB)) hB hst (by simp; omega)) hs (by omega)

/-! Encode's output: a variable that holds a slice of bytes -/
def StE (cb : Nat) (w : World) (l : List UInt8) : Prop := ∃ v, w.heap[cb]? = some (.cells #[v] 27 (0, 0)) ∧ Own w (cb + 1) v l
theorem StE.far {cb : Nat} {w w' : World} {l : List UInt8} (h : StE cb w l) (hs : ∀ k, k < w.heap.size → w'.heap[k]? = w.heap[k]?) : StE cb w' l := by
  obtain ⟨v, hc, ho⟩ := h
  exact ⟨v, by rw [hs _ (lt_of_block hc)]; exact hc, ho.kept fun g hg => hs g (World.ownsRow.lt ho g hg).2⟩
theorem StE.lt {cb : Nat} {w : World} {l : List UInt8} (h : StE cb w l) : cb < w.heap.size := by
  obtain ⟨v, hc, _⟩ := h
  exact lt_of_block hc

theorem Own.slice {w : World} {b : Nat} {v : Value} {l : List UInt8} (h : Own w b v l) : ∃ A n cap, v = .slice A n cap := by
  rcases h.2 with ⟨rfl, _⟩ | ⟨g, cap, cur, rfl, _⟩
  · exact ⟨_, _, _, rfl⟩
  · exact ⟨_, _, _, rfl⟩
theorem Own.alloc {w : World} {b : Nat} {v : Value} {l : List UInt8} (h : Own w b v l) (o : Obj) : Own (w.alloc o) b v l := World.ownsRow.alloc h o
/-- behind the store of the new slice value -/
theorem stE_store {cb : Nat} {w w1 : World} {v v' : Value} {l l' : List UInt8} (hc : w.heap[cb]? = some (.cells #[v] 27 (0, 0))) (ho : Own w (cb + 1) v l) (hb : Below w.heap.size w w1) {w2 : World} (hg : w1.grownBy w2 v.ownBlock) (ho2 : Own w2 (cb + 1) v' l') :
    w2.heap[cb]? = some (.cells #[v] 27 (0, 0)) ∧ StE cb (w2.setCell ⟨cb, 0, none⟩ v') l' ∧ Keeps cb w (w2.setCell ⟨cb, 0, none⟩ v') := by
  have hlt := lt_of_block hc
  have hcb : w2.heap[cb]? = some (.cells #[v] 27 (0, 0)) := by
    rw [hg.block cb (by have := hb.size; omega) (fun e => by have := (World.ownsRow.lt ho cb e.symm).1; omega), hb.block cb hlt, hc]
  refine ⟨hcb, ⟨v', one_setCell hcb, ho2.kept fun g hg => Below.heap_setCell _ _ _ _ (by have := (World.ownsRow.lt ho2 g hg).1; show g ≠ cb; omega)⟩, ⟨hg.os.trans hb.os, hg.tape.trans hb.tape, hg.output.trans hb.output, Nat.le_trans hb.size (by simpa [World.setCell] using hg.size), fun k hk hne hx => ?_⟩⟩
  rw [Below.heap_setCell _ _ _ _ (by show k ≠ cb; exact hne), hg.block k (by have := hb.size; omega) (fun e => ?_), hb.block k hk]
  have hk2 := World.ownsRow.lt ho k e.symm
  rcases hx with hx | hx
  · omega
  · apply hx
    rcases ho.2 with ⟨rfl, _⟩ | ⟨g, cap, cur, rfl, _, hh, _⟩
    · cases e
    · injection e with e
      subst e
      exact ⟨cur, _, hh⟩

set_option maxHeartbeats 400000 in
theorem encDigit (cb : Nat) (w : World) (l : List UInt8) (c : Int) (hs : StE cb w l) (hl : l.length < 1099511627776) (h0 : 0 ≤ c) (h1 : c < 256) :
    Calls Try.prog 27 #[.int .u8 c, .pointer (some ⟨cb, 0, none⟩)] w fun e w' => e = .returned (.tuple #[]) ∧ StE cb w' (l ++ [UInt8.ofNat c.toNat]) ∧ Keeps cb w w' := by
  obtain ⟨v, hc, ho⟩ := hs
  have c0 := cell_of_one hc
  have f0 := free_of_one hc
  have HO := Lib.hid ho
  have HC := Lib.hid hc
  have hlt := lt_of_block hc
  have HB : Hid (Own (w.alloc (.cells #[.int .u8 c] 5)) w.heap.size (.slice (some ⟨w.heap.size, 0, none⟩) 1 1) [UInt8.ofNat c.toNat]) := by
    have := own_build w c.toNat (by omega)
    rwa [Int.toNat_of_nonneg h0] at this
  clear hc ho
  go_enter Try.func27, Try.ntmps27
  go_wp2_with (at_builtin; refine app_own rfl (.tmp 3) (.tmp 5) rfl (cb + 1) _ v _ l _ rfl rfl (HO.out.alloc _) HB.out (by simp) (by simp; omega) (by simp; omega) ?_; intro v' w2 ho2 hg; obtain ⟨A', n', cap', rfl⟩ := ho2.slice; have HS := Lib.hid (stE_store HC.out HO.out ((Below.refl _ _).alloc (Nat.le_refl _) _) hg ho2); have c2 := cell_of_one HS.out.1; have f2 := free_of_one HS.out.1)
  go_end0
  exact ⟨rfl, HS.out.2.1, HS.out.2.2⟩

set_option maxHeartbeats 400000 in
theorem encText (cb : Nat) (w : World) (l : List UInt8) (s : ByteArray) (hs : StE cb w l) (hl : l.length + s.size < 1099511627776) :
    Calls Try.prog 28 #[.string s, .pointer (some ⟨cb, 0, none⟩)] w fun e w' => e = .returned (.tuple #[]) ∧ StE cb w' (l ++ s.data.toList) ∧ Keeps cb w w' := by
  obtain ⟨v, hc, ho⟩ := hs
  have c0 := cell_of_one hc
  have f0 := free_of_one hc
  have HO := Lib.hid ho
  have HC := Lib.hid hc
  have hlt := lt_of_block hc
  clear hc ho
  go_enter Try.func28, Try.ntmps28
  go_wp2_with (at_builtin; refine app_str rfl (.tmp 3) (.tmp 4) rfl (cb + 1) v l s rfl rfl HO.out (by omega) (by omega) ?_; intro v' w2 ho2 hg; obtain ⟨A', n', cap', rfl⟩ := ho2.slice; have HS := Lib.hid (stE_store HC.out HO.out (Below.refl _ _) hg ho2); have c2 := cell_of_one HS.out.1; have f2 := free_of_one HS.out.1)
  go_end0
  exact ⟨rfl, HS.out.2.1, HS.out.2.2⟩

theorem outE (cb : Nat) : Out 27 28 cb (StE cb) where
  ed := Go.Proofs.enters_of Try.func27 (by kernel_rfl) rfl
  et := Go.Proofs.enters_of Try.func28 (by kernel_rfl) rfl
  lt := StE.lt
  alloc := fun o h => h.far fun k hk => Below.heap_alloc _ _ _ hk
  drew := fun h => h
  digit := fun w l c hs hl h0 h1 => encDigit cb w l c hs hl h0 h1
  text := fun w l s hs hl => encText cb w l s hs hl

def V.out (v : V) : List UInt8 := if v.chk = 0 then v.enc else []

set_option maxRecDepth 100000 in
set_option maxHeartbeats 800000 in
theorem encode_all (v : V) (B : Nat) (A : Option Addr) (cap : Nat) (w : World) (hv : RdV w (· < B) v A cap) (hB : B ≤ w.heap.size) (hd : v.depth ≤ 4611686018427387904) (hl : v.enc.length + 20 < 1099511627776) :
    Calls Try.prog 12 #[v.val A cap] w fun e w' => ∃ bv, e = .returned (.tuple #[bv, .int .i64 v.chk]) ∧ Own w' w.heap.size bv v.out ∧ Below w.heap.size w w' := by
  have C := Lib.hid (fun o o' => check_all v B A cap ((w.alloc o).alloc o') (hv.keep (keep2 w o o' hB)) (by simp; omega) hd)
  go_enter Try.func12, Try.ntmps12
  go_wp2_with fail
  obtain ⟨W1, hW1, c0, c1, hz, hb, b0, b1⟩ := two_boxes w #[.int .i64 v.k, .int .i64 v.n, .string v.s, .slice A v.l.len cap] #[.slice none 0 0] 24 27
  have CW := Lib.hid (C.out (.cells #[.int .i64 v.k, .int .i64 v.n, .string v.s, .slice A v.l.len cap] 24) (.cells #[.slice none 0 0] 27))
  rw [← hW1]
  rw [← hW1] at CW
  clear hW1 C
  refine CW.out.mono ?_
  rintro e w' ⟨rfl, hb2⟩
  have x0 : w'.heap[w.heap.size]? = some (.cells #[.int .i64 v.k, .int .i64 v.n, .string v.s, .slice A v.l.len cap] 24) := (hb2.block _ (by omega)).trans b0
  have x1 : w'.heap[w.heap.size + 1]? = some (.cells #[.slice none 0 0] 27) := (hb2.block _ (by omega)).trans b1
  have hb3 : Below w.heap.size w w' := hb.trans (hb2.mono (by omega))
  have y1 := cell_of_one x1
  have f1 := free_of_one x1
  have X1 := Lib.hid x1
  have hz2 := hb2.size
  clear x1 b0 b1 c0 c1 hb hb2 CW
  by_cases hc : v.chk = 0
  · have hwf : v.wf = true := by
      unfold V.chk at hc
      split at hc
      · assumption
      · simp at hc
    have p : ∀ i, w'.cell? ⟨w.heap.size, i, none⟩ = _ := fun i => cell_of_row _ _ _ _ _ _ x0
    have p0 : w'.cell? ⟨w.heap.size, 0, none⟩ = some (.int .i64 v.k) := p 0
    have p1 : w'.cell? ⟨w.heap.size, 1, none⟩ = some (.int .i64 v.n) := p 1
    have p2 : w'.cell? ⟨w.heap.size, 2, none⟩ = some (.string v.s) := p 2
    have p3 : w'.cell? ⟨w.heap.size, 3, none⟩ = some (.slice A v.l.len cap) := p 3
    have hst : StE (w.heap.size + 1) w' [] := ⟨_, X1.out, Own.nil _ _⟩
    have D := Lib.hid (write_all (outE (w.heap.size + 1)) v A cap B [] w' hwf (hv.below (hb3.mono hB)) (by omega) hst (by simp; omega))
    have HW : Hid (v.out = v.enc) := by show v.out = v.enc; simp [V.out, hc]
    clear p x0 hst hwf
    go_wp2_with fail
    refine D.out.mono ?_
    rintro e w2 ⟨rfl, hst, hk⟩
    obtain ⟨bv, hcb, ho⟩ := hst
    obtain ⟨A', n', cap', rfl⟩ := ho.slice
    have q1 := cell_of_one hcb
    have qf := free_of_one hcb
    have HO := Lib.hid ho
    have HK := Lib.hid hk
    have HCB := Lib.hid hcb
    clear hcb ho hk p0 p1 p2 p3 y1 f1 D
    go_wp2
    refine bodyPost_ret (v := .tuple #[.slice A' n' cap', .int .i64 0]) (by simp [results, Try.results12, go_sem, World.cell?_setCell_same _ _ _ q1]) rfl ⟨_, by rw [hc], ?_, ?_⟩
    · rw [HW.out]
      exact (HO.out.kept fun g hg => Below.heap_setCell _ _ _ _ (by have := (World.ownsRow.lt HO.out g hg).1; show g ≠ w.heap.size + 1; omega)).base (by omega)
    · exact (hb3.trans ((HK.out.to_below (by omega)).mono (by omega))).setCell (by show w.heap.size ≤ w.heap.size + 1; omega) _
  · have HW : Hid (v.out = []) := by show v.out = []; simp [V.out, hc]
    have hcb : (v.chk != 0) = true := by simpa using hc
    clear x0
    go_wp2
    refine bodyPost_ret (v := .tuple #[.slice none 0 0, .int .i64 v.chk]) (by simp [results, Try.results12, go_sem, World.cell?_setCell_same _ _ _ y1]) rfl ⟨_, rfl, ?_, ?_⟩
    · rw [HW.out]
      exact Own.nil _ _
    · exact hb3.setCell (by show w.heap.size ≤ w.heap.size + 1; omega) _
end Go.Proofs.Ytomiacedailmaaa
