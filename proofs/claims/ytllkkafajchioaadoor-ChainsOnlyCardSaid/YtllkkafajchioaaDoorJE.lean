/- Digest: the reference's Tagged. -/
import Derived.Test.YtllkkafajchioaaDoorJD
import Derived.Test.YtllkkafajchioaaDoorHI
namespace Go.Proofs.YtllkkafajchioaaDoor
open Go.RowKit

theorem RowB.byt32 {w : World} {b : Nat} {t : TypeId} {l : List UInt8} (h : RowB w b t l) (hl : l.length = 32) : Byt w (fun i => i = b) l (some ⟨b, 0, none⟩) 32 := by
  have := h.byt (by rw [hl]; decide)
  rwa [hl] at this

set_option maxRecDepth 100000 in
set_option maxHeartbeats 1600000 in
theorem rtagged_all (s : ByteArray) (l : List UInt8) (A : Option Addr) (cap : Nat) (w : World) (hs : s.size ≤ 900000) (hn : l.length ≤ 900000) (hl : Byt w (· < w.heap.size) l A cap) :
    Calls Tryd.prog 42 #[.string s, .slice A l.length cap] w fun e w' => e = .returned (.agg (U (tagd s.data.toList l)).toArray) ∧ Below w.heap.size w w' := by
  have HL := Lib.hid hl
  have hconv := fun (w : World) (s : ByteArray) => Lib.run_convert_string_bytes (P := Tryd.prog) w 9 41 5 s Tryd.underlying9 Tryd.underlying41 Tryd.underlying5
  have hz : RowB (w.alloc (.cells (U (flb 32 [])).toArray 23)) w.heap.size 23 (flb 32 []) := heap_alloc_new w _
  have HZ := Lib.hid hz
  clear hl hz
  go_enter Tryd.func42, Tryd.ntmps42
  go_wp2_with fail
  have hgen : ∀ W1, w.alloc (.cells (U (flb 32 [])).toArray 23) = W1 → RowB W1 w.heap.size 23 (flb 32 []) ∧ Below w.heap.size w W1 ∧ W1.heap.size = w.heap.size + 1 := by
    rintro W1 rfl
    exact ⟨HZ.out, (Below.refl _ _).alloc (Nat.le_refl _) _, by simp⟩
  generalize hW1 : w.alloc _ = W1
  obtain ⟨hd1, hb1, hz1⟩ := hgen W1 hW1
  clear hgen hW1
  have hsl : s.data.toList.length = s.size := by simp
  have hbc := below_conv W1 s
  have hzc := Lib.bytesWorld_size W1 5 s
  have C := rsum_all s.data.toList _ _ (Lib.bytesWorld W1 5 s) ((byt_conv W1 s (by simp only [maxLen]; omega)).keep fun i hi => ⟨by rw [hzc]; exact hi, rfl⟩) (by omega)
  rw [hsl, hz1] at C
  refine C.mono ?_
  rintro e w2 ⟨rfl, hb⟩
  have hb12 : Below W1.heap.size W1 w2 := hbc.trans (hb.mono (by omega))
  have hz2 : w.heap.size + 2 ≤ w2.heap.size := by have := hb.size; omega
  have HB2 := Lib.hid (hb1.trans (hb12.mono (by omega)))
  have HD2 := Lib.hid (hd1.keep (hb12.block _ (by omega)))
  have hn1 : RowB (w2.alloc (.cells (U (flb 32 [])).toArray 23)) w2.heap.size 23 (flb 32 []) := heap_alloc_new w2 _
  have hn2 := hn1.setRow (sha s.data.toList)
  have hb23 : Below w2.heap.size w2 ((w2.alloc (.cells (U (flb 32 [])).toArray 23)).setRow w2.heap.size (U (sha s.data.toList)).toArray) := below_setRow ((Below.refl _ _).alloc (Nat.le_refl _) _) (Nat.le_refl _) _
  have HN2 := Lib.hid hn2
  have HB23 := Lib.hid hb23
  clear hd1 hb1 hsl hbc hzc C hb hb12 hn2 hb23
  have hz3' : ((w2.alloc (.cells (U (flb 32 [])).toArray 23)).setRow w2.heap.size (U (sha s.data.toList)).toArray).heap.size = w2.heap.size + 1 := by simp [setRow_size]
  have HZ3 := Lib.hid hz3'
  clear hz3'
  go_wp2_with (first
    | (refine store_B rfl (.tmp 5) (.tmp 8) rfl w2.heap.size (flb 32 []) (sha s.data.toList) rfl rfl 23 hn1 (sha_len _) (by simp [flb]) ?_
       generalize hW3 : (w2.alloc _).setRow _ _ = W3
       have hn3 : RowB W3 w2.heap.size 23 (sha s.data.toList) := by rw [← hW3]; exact HN2.out
       have hb3 : Below w2.heap.size w2 W3 := by rw [← hW3]; exact HB23.out
       have hz3 : W3.heap.size = w2.heap.size + 1 := by rw [← hW3]; exact HZ3.out
       clear hW3 HN2 HB23 HZ3 hn1
       have hlen := sha_len s.data.toList
       have HLEN := Lib.hid hlen
       have HO3 := Lib.hid (own_row W3 #[] 0 rfl (Nat.zero_le _))
       have HS3 := Lib.hid ((hn3.byt32 hlen).keep (w' := W3.alloc (.cells #[] 5)) (S' := (· < W3.heap.size)) fun i hi => ⟨by omega, Below.heap_alloc _ _ _ (by omega)⟩)
       have HB3 := Lib.hid hb3
       have hlw : w.heap.size < w2.heap.size := by omega
       clear hn3 hb3 hlen)
    | (at_builtin; refine app_byt rfl (.tmp 9) (.tmp 10) rfl W3.heap.size _ _ _ _ [] (sha s.data.toList) (by rw [hz3]; rfl) (by rw [HLEN.out]; rfl) HO3.out HS3.out (by rw [HLEN.out]; simp) (by simp) ?_; intro v4 w4 ho4 hg4; rw [List.nil_append] at ho4; obtain ⟨A4, c4, e4⟩ := ho4.slice; subst e4; have hb4 := below_own ((Below.refl W3.heap.size W3).alloc (Nat.le_refl _) _) hg4 HO3.out (Nat.le_refl _) (by simp); have HB4 := Lib.hid hb4; have HO4 := Lib.hid ho4; have hz4 := hb4.size; have HL4 := Lib.hid (HL.out.keep (S' := (· < w.heap.size)) fun i hi => ⟨hi, (hb4.block i (by omega)).trans ((HB3.out.block i (by omega)).trans (HB2.out.block i hi))⟩); clear ho4 hg4 hb4)
    | (at_builtin; refine app_byt rfl (.tmp 11) (.tmp 12) rfl W3.heap.size _ _ _ _ (sha s.data.toList) l rfl rfl HO4.out HL4.out (by rw [HLEN.out]; omega) hz4 ?_; intro v5 w5 ho5 hg5; obtain ⟨A5, c5, e5, hy5⟩ := ho5.byt; subst e5; have HB5 := Lib.hid (below_own HB4.out hg5 HO4.out (Nat.le_refl _) hz4); have HY5 := Lib.hid hy5; clear ho5 hg5 hy5))
  have hz5 := HB5.out.size
  have hb25 : Below w2.heap.size w2 w5 := HB3.out.trans (HB5.out.mono (by omega))
  have hb5 : Below w.heap.size w w5 := HB2.out.trans (hb25.mono (by omega))
  have hd5 := HD2.out.keep (hb25.block _ hlw)
  have C := rsum_all (sha s.data.toList ++ l) A5 c5 w5 (HY5.out.keep fun i hi => ⟨hi.2, rfl⟩) (by rw [List.length_append, HLEN.out]; omega)
  rw [List.length_append] at C
  refine C.mono ?_
  rintro e w6 ⟨rfl, hb6⟩
  have HB6 := Lib.hid (hb5.trans (hb6.mono (by omega)))
  have hd6 := hd5.keep (hb6.block _ (by omega))
  have hr6 := hd6.setRow (sha (sha s.data.toList ++ l))
  clear hb25 hb5 hd5 C hb6
  go_wp2_with (refine store_B rfl (.tmp 4) (.tmp 14) rfl w.heap.size (flb 32 []) (sha (sha s.data.toList ++ l)) rfl rfl 23 hd6 (sha_len _) (by simp [flb]) ?_)
  exact bodyPost_ret (res_B rfl _ _ _ _ _ rfl hr6 (sha_len _)) rfl ⟨rfl, below_setRow HB6.out (Nat.le_refl _) _⟩
end Go.Proofs.YtllkkafajchioaaDoor
