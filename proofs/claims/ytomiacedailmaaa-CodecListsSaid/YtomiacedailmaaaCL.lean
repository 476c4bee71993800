/- Codec: Size. -/
import Derived.Test.YtomiacedailmaaaCK
namespace Go.Proofs.Ytomiacedailmaaa
open Go.RowKit

/-! Size's output: a variable that holds a number -/
def StS (cb : Nat) (w : World) (l : List UInt8) : Prop := w.heap[cb]? = some (.cells #[.int .i64 l.length] 3 (0, 0))
theorem keeps_set {cb : Nat} {w : World} (u : Value) : Keeps cb w (w.setCell ⟨cb, 0, none⟩ u) :=
  ⟨rfl, rfl, rfl, by simp [World.setCell], fun k _ hne _ => Below.heap_setCell _ _ _ _ (by show k ≠ cb; exact hne)⟩

set_option maxHeartbeats 400000 in
theorem sizeDigit (cb : Nat) (w : World) (l : List UInt8) (c : Int) (hs : StS cb w l) (hl : l.length < 1099511627776) :
    Calls Try.prog 30 #[.int .u8 c, .pointer (some ⟨cb, 0, none⟩)] w fun e w' => e = .returned (.tuple #[]) ∧ StS cb w' (l ++ [UInt8.ofNat c.toNat]) ∧ Keeps cb w w' := by
  have c0 := cell_of_one hs
  have f0 := free_of_one hs
  have HC := Lib.hid hs
  clear hs
  go_enter Try.func30, Try.ntmps30
  go_wp2
  go_end0
  refine ⟨rfl, ?_, keeps_set _⟩
  have := one_setCell (u := .int .i64 ((l.length : Int) + 1)) HC.out
  simpa [StS] using this

set_option maxHeartbeats 400000 in
theorem sizeText (cb : Nat) (w : World) (l : List UInt8) (s : ByteArray) (hs : StS cb w l) (hl : l.length + s.size < 1099511627776) :
    Calls Try.prog 31 #[.string s, .pointer (some ⟨cb, 0, none⟩)] w fun e w' => e = .returned (.tuple #[]) ∧ StS cb w' (l ++ s.data.toList) ∧ Keeps cb w w' := by
  have c0 := cell_of_one hs
  have f0 := free_of_one hs
  have HC := Lib.hid hs
  clear hs
  go_enter Try.func31, Try.ntmps31
  go_wp2
  go_end0
  refine ⟨rfl, ?_, keeps_set _⟩
  have := one_setCell (u := .int .i64 ((l.length : Int) + s.size)) HC.out
  simpa [StS] using this

theorem StS.far {cb : Nat} {w w' : World} {l : List UInt8} (h : StS cb w l) (hs : ∀ k, k < w.heap.size → w'.heap[k]? = w.heap[k]?) : StS cb w' l := (hs _ (lt_of_block h)).trans h

theorem outS (cb : Nat) : Out 30 31 cb (StS cb) where
  ed := Go.Proofs.enters_of Try.func30 (by kernel_rfl) rfl
  et := Go.Proofs.enters_of Try.func31 (by kernel_rfl) rfl
  lt := fun h => lt_of_block h
  alloc := fun o h => h.far fun k hk => Below.heap_alloc _ _ _ hk
  drew := fun h => h
  digit := fun w l c hs hl _ _ => sizeDigit cb w l c hs hl
  text := fun w l s hs hl => sizeText cb w l s hs hl

set_option maxRecDepth 100000 in
set_option maxHeartbeats 800000 in
theorem size_all (v : V) (B : Nat) (A : Option Addr) (cap : Nat) (w : World) (hv : RdV w (· < B) v A cap) (hB : B ≤ w.heap.size) (hd : v.depth ≤ 4611686018427387904) (hl : v.enc.length + 20 < 1099511627776) :
    Calls Try.prog 14 #[v.val A cap] w fun e w' => e = .returned (.tuple #[.int .i64 v.out.length, .int .i64 v.chk]) ∧ Below w.heap.size w w' := by
  have C := Lib.hid (fun o o' => check_all v B A cap ((w.alloc o).alloc o') (hv.keep (keep2 w o o' hB)) (by simp; omega) hd)
  go_enter Try.func14, Try.ntmps14
  go_wp2_with fail
  obtain ⟨W1, hW1, c0, c1, hz, hb, b0, b1⟩ := two_boxes w #[.int .i64 v.k, .int .i64 v.n, .string v.s, .slice A v.l.len cap] #[.int .i64 0] 24 3
  have CW := Lib.hid (C.out (.cells #[.int .i64 v.k, .int .i64 v.n, .string v.s, .slice A v.l.len cap] 24) (.cells #[.int .i64 0] 3))
  rw [← hW1]
  rw [← hW1] at CW
  clear hW1 C
  refine CW.out.mono ?_
  rintro e w' ⟨rfl, hb2⟩
  have x0 : w'.heap[w.heap.size]? = some (.cells #[.int .i64 v.k, .int .i64 v.n, .string v.s, .slice A v.l.len cap] 24) := (hb2.block _ (by omega)).trans b0
  have x1 : w'.heap[w.heap.size + 1]? = some (.cells #[.int .i64 0] 3) := (hb2.block _ (by omega)).trans b1
  have hb3 : Below w.heap.size w w' := hb.trans (hb2.mono (by omega))
  have y1 := cell_of_one x1
  have f1 := free_of_one x1
  have X1 := Lib.hid x1
  have hz2 := hb2.size
  clear x1 b0 b1 c0 c1 hb hb2 CW
  by_cases hc : v.chk = 0
  · have hwf : v.wf = true := by
      unfold V.chk at hc
      split at hc
      · assumption
      · simp at hc
    have p : ∀ i, w'.cell? ⟨w.heap.size, i, none⟩ = _ := fun i => cell_of_row _ _ _ _ _ _ x0
    have p0 : w'.cell? ⟨w.heap.size, 0, none⟩ = some (.int .i64 v.k) := p 0
    have p1 : w'.cell? ⟨w.heap.size, 1, none⟩ = some (.int .i64 v.n) := p 1
    have p2 : w'.cell? ⟨w.heap.size, 2, none⟩ = some (.string v.s) := p 2
    have p3 : w'.cell? ⟨w.heap.size, 3, none⟩ = some (.slice A v.l.len cap) := p 3
    have hst : StS (w.heap.size + 1) w' [] := X1.out
    have D := Lib.hid (write_all (outS (w.heap.size + 1)) v A cap B [] w' hwf (hv.below (hb3.mono hB)) (by omega) hst (by simp; omega))
    have HW : Hid (v.out = v.enc) := by show v.out = v.enc; simp [V.out, hc]
    clear p x0 hst hwf
    go_wp2_with fail
    refine D.out.mono ?_
    rintro e w2 ⟨rfl, hcb, hk⟩
    rw [List.nil_append] at hcb
    have q1 := cell_of_one hcb
    have qf := free_of_one hcb
    have HK := Lib.hid hk
    clear hcb hk p0 p1 p2 p3 y1 f1 D
    go_wp2
    refine bodyPost_ret (v := .tuple #[.int .i64 v.enc.length, .int .i64 0]) (by simp [results, Try.results14, go_sem, World.cell?_setCell_same _ _ _ q1]) rfl ⟨by rw [hc, HW.out], ?_⟩
    exact (hb3.trans ((HK.out.to_below (by omega)).mono (by omega))).setCell (by show w.heap.size ≤ w.heap.size + 1; omega) _
  · have HW : Hid (v.out = []) := by show v.out = []; simp [V.out, hc]
    have hcb : (v.chk != 0) = true := by simpa using hc
    clear x0
    go_wp2
    refine bodyPost_ret (v := .tuple #[.int .i64 0, .int .i64 v.chk]) (by simp [results, Try.results14, go_sem, World.cell?_setCell_same _ _ _ y1]) rfl ⟨by rw [HW.out]; rfl, ?_⟩
    exact hb3.setCell (by show w.heap.size ≤ w.heap.size + 1; omega) _
end Go.Proofs.Ytomiacedailmaaa
