/- Chains: steps, first elements, public keys. -/
import Derived.Test.YtllkkafajchioaaDoorXC
import Derived.Test.YtllkkafajchioaaDoorXD
namespace Go.Proofs.YtllkkafajchioaaDoor
open Go.RowKit

def stepT : ByteArray := ⟨#[115, 116, 101, 112]⟩
def chainT : ByteArray := ⟨#[99, 104, 97, 105, 110]⟩
def publicT : ByteArray := ⟨#[112, 117, 98, 108, 105, 99]⟩
/-- one step -/
def sd (x : List UInt8) : List UInt8 := tagd stepT.data.toList x
def sn : Nat → List UInt8 → List UInt8
  | 0, x => x
  | n + 1, x => sd (sn n x)
theorem sd_len (x : List UInt8) : (sd x).length = 32 := tagd_len _ _
theorem sn_len (n : Nat) (x : List UInt8) (h : x.length = 32) : (sn n x).length = 32 := by
  cases n with
  | zero => exact h
  | succ n => exact sd_len _
theorem sn_add (a b : Nat) (x : List UInt8) : sn a (sn b x) = sn (a + b) x := by
  induction a with
  | zero => rw [Nat.zero_add]; rfl
  | succ a ih => rw [show a + 1 + b = (a + b) + 1 by omega]; show sd _ = sd _; rw [ih]
def fst5 (s : List UInt8) (i : Nat) : List UInt8 := tagd chainT.data.toList (s ++ [UInt8.ofNat i])
theorem fst5_len (s : List UInt8) (i : Nat) : (fst5 s i).length = 32 := tagd_len _ _
def fsts (s : List UInt8) (n : Nat) : List (List UInt8) := (List.range n).map (fst5 s)
theorem fsts_len (s : List UInt8) (n : Nat) : (fsts s n).length = n := by simp [fsts]
theorem fsts_succ (s : List UInt8) (n : Nat) : fsts s (n + 1) = fsts s n ++ [fst5 s n] := by simp [fsts, List.range_succ]
def pubk (L : List (List UInt8)) : List UInt8 := tagd publicT.data.toList L.flatten
theorem pubk_len (L : List (List UInt8)) : (pubk L).length = 32 := tagd_len _ _

/-- one part -/
theorem ctag_one (s : ByteArray) (b : Nat) (x : List UInt8) (w : World) (hs : s.size ≤ 1000) (hx : x.length = 32) (hr : RowB w b 23 x) (hk : KR w Kt) :
    Calls Tryd.prog 40 #[.string s, .slice (some ⟨w.heap.size, 0, none⟩) 1 1] (w.alloc (.cells #[.slice (some ⟨b, 0, none⟩) 32 32] 41)) fun e w' => e = .returned (.agg (U (tagd s.data.toList x)).toArray) ∧ Below w.heap.size w w' := by
  obtain ⟨h0, hb1, hz1⟩ := box1 w #[.slice (some ⟨b, 0, none⟩) 32 32] 41 _ rfl
  have hlt := hr.lt
  have hlt0 := hk.lt
  have C := ctag_all s [(some ⟨b, 0, none⟩, 32, x)] w.heap.size 1 _ hs (fun j y hy => by
    cases j with
    | zero =>
      simp at hy
      subst hy
      refine ⟨?_, ((hr.keep (hb1.block _ hlt)).b32 hx).keep fun i hi => ⟨by omega, rfl⟩⟩
      simp only
      rw [hx]
      exact cell_of_row _ w.heap.size 0 _ _ _ h0
    | succ j => simp at hy) (by omega) (Nat.le_refl _) (by omega) (by simp) (by simp [tot, hx]) (hk.keep (hb1.block 0 hlt0))
  refine C.mono fun e w' ⟨he, hb⟩ => ⟨?_, hb1.trans (hb.mono (by omega))⟩
  rw [he]
  simp [cat]
theorem ctag_step (b : Nat) (x : List UInt8) (w : World) (hx : x.length = 32) (hr : RowB w b 23 x) (hk : KR w Kt) :
    Calls Tryd.prog 40 #[.string ⟨#[115, 116, 101, 112]⟩, .slice (some ⟨w.heap.size, 0, none⟩) 1 1] (w.alloc (.cells #[.slice (some ⟨b, 0, none⟩) 32 32] 41)) fun e w' => e = .returned (.agg (U (sd x)).toArray) ∧ Below w.heap.size w w' :=
  ctag_one stepT b x w (by decide) hx hr hk
/-- two parts -/
theorem ctag_first (b i : Nat) (x : List UInt8) (w : World) (hx : x.length = 32) (hi : i < 256) (hr : RowB w b 23 x) (hk : KR w Kt) :
    Calls Tryd.prog 40 #[.string chainT, .slice (some ⟨w.heap.size + 1, 0, none⟩) 2 2] ((w.alloc (.cells #[.int .u8 i] 5)).alloc (.cells #[.slice (some ⟨b, 0, none⟩) 32 32, .slice (some ⟨w.heap.size, 0, none⟩) 1 1] 41)) fun e w' => e = .returned (.agg (U (fst5 x i)).toArray) ∧ Below w.heap.size w w' := by
  obtain ⟨h0, h1, hb1, hz1⟩ := box2 w #[.int .u8 i] #[.slice (some ⟨b, 0, none⟩) 32 32, .slice (some ⟨w.heap.size, 0, none⟩) 1 1] 5 41 _ rfl
  have hlt := hr.lt
  have hlt0 := hk.lt
  have hby := byt_one w (UInt8.ofNat i) (i : Int) (by rw [UInt8.toNat_ofNat', Nat.mod_eq_of_lt hi])
  have hz0 : (w.alloc (.cells #[.int .u8 i] 5)).heap.size = w.heap.size + 1 := by simp
  have hb2 : Below (w.heap.size + 1) (w.alloc (.cells #[.int .u8 i] 5)) ((w.alloc (.cells #[.int .u8 i] 5)).alloc (.cells #[.slice (some ⟨b, 0, none⟩) 32 32, .slice (some ⟨w.heap.size, 0, none⟩) 1 1] 41)) := (Below.refl _ _).alloc (by simp) _
  have C := ctag_all chainT [(some ⟨b, 0, none⟩, 32, x), (some ⟨w.heap.size, 0, none⟩, 1, [UInt8.ofNat i])] (w.heap.size + 1) 2 _ (by decide) (fun j y hy => by
    match j, hy with
    | 0, hy =>
      simp at hy
      subst hy
      refine ⟨?_, ((hr.keep (hb1.block _ hlt)).b32 hx).keep fun i hi => ⟨by omega, rfl⟩⟩
      simp only
      rw [hx]
      exact cell_of_row _ (w.heap.size + 1) 0 _ _ _ h1
    | 1, hy =>
      simp at hy
      subst hy
      exact ⟨cell_of_row _ (w.heap.size + 1) 1 _ _ _ h1, hby.keep fun i hi => ⟨by omega, hb2.block i hi⟩⟩
    | j + 2, hy => simp at hy) (by omega) (Nat.le_refl _) (by omega) (by simp) (by simp [tot, hx]) (hk.keep (hb1.block 0 hlt0))
  refine C.mono fun e w' ⟨he, hb⟩ => ⟨?_, hb1.trans (hb.mono (by omega))⟩
  rw [he]
  simp [cat, fst5]

set_option maxRecDepth 100000 in
set_option maxHeartbeats 1600000 in
theorem firsts_all (s : List UInt8) (w : World) (hs : s.length = 32) (hk : KR w Kt) :
    Calls Tryd.prog 33 #[.agg (U s).toArray] w fun e w' => ∃ v, e = .returned v ∧ OwnD w' w.heap.size v (fsts s 19) ∧ Below w.heap.size w w' := by
  have HS := Lib.hid hs
  have HK := Lib.hid hk
  have hlt0 := hk.lt
  clear hs hk
  go_enter Tryd.func33, Tryd.ntmps33
  go_wp2_with fail
  generalize hW1 : w.alloc _ = W1
  obtain ⟨h0, hb1, hz1⟩ := box1 w (U s).toArray 23 W1 hW1
  have R0 := Lib.hid (show RowB W1 w.heap.size 23 s from h0)
  have HB1 := Lib.hid hb1
  have hz1' : w.heap.size < W1.heap.size := by omega
  clear hW1 h0 hb1 hz1
  go_loopw [2, 4] (fun v x wr => ∃ (k : Nat) (A : Option Addr) (c : Nat), k ≤ 19 ∧ v = .slice A (fsts s k).length c ∧ x = .int .i64 k ∧ Hid (OwnD wr W1.heap.size (.slice A (fsts s k).length c) (fsts s k)) ∧ Hid (Below W1.heap.size W1 wr)) (fun _ x _ => 19 - (intOf x).toNat)
  case atStart => exact ⟨0, none, 0, by omega, rfl, rfl, Lib.hid (OwnD.nil _ _), Lib.hid (Below.refl _ _)⟩
  case round =>
    obtain ⟨k, A, c, hk, rfl, rfl, HO, HB⟩ := hrel
    have hfl := fsts_len s k
    by_cases hlt : k < 19
    · have hz := HB.out.size
      have C := ctag_first w.heap.size k s wr HS.out (by omega) (R0.out.keep (HB.out.block _ hz1')) (HK.out.keep ((HB.out.block 0 (by omega)).trans (HB1.out.block 0 hlt0)))
      have CC := Lib.hid C
      have HF := Lib.hid (fsts_succ s k)
      have HL := Lib.hid (show (fsts s (k + 1)).length = (fsts s k).length + 1 by rw [HF.out, List.length_append]; rfl)
      have hbd : (fsts s k).length ≤ 19 := by omega
      have h5 := fst5_len s k
      have H5 := Lib.hid h5
      clear C hfl h5
      generalize fsts s k = L at *
      generalize hF5 : fst5 s k = F5 at *
      clear hF5
      go_wp2_with fail
      refine CC.out.mono ?_
      rintro e w5 ⟨rfl, hb5⟩
      have hz5 := hb5.size
      have HOA := Lib.hid ((HO.out.step hb5).alloc (.cells (U F5).toArray 23))
      have HSRC := Lib.hid (show RowB (w5.alloc (.cells (U F5).toArray 23)) w5.heap.size 23 F5 from heap_alloc_new w5 _)
      have HB5 := Lib.hid (HB.out.trans (hb5.mono hz))
      clear CC hb5
      go_wp2_with (first
        | (refine bs_dig rfl (.tmp 13) rfl F5 rfl H5.out ?_)
        | (at_builtin; refine app_dig rfl (.tmp 7) (.tmp 14) rfl W1.heap.size w5.heap.size _ L F5 rfl rfl HOA.out HSRC.out H5.out (by omega) (by simp; omega) ?_; intro v6 w6 ho6 hg6; obtain ⟨A6, c6, e6⟩ := ho6.slice; subst e6; have HO6 := Lib.hid ho6; have HB6 := Lib.hid (below_ownD (HB5.out.alloc (by omega) _) hg6 HOA.out (Nat.le_refl _) (by simp; omega)); clear ho6 hg6))
      go_roundw
      case rel => exact ⟨k + 1, A6, c6, by omega, by rw [HL.out], rfl, Lib.hid (by rw [HF.out]; exact HO6.out), HB6⟩
      case measure => simp [intOf]; omega
    · obtain rfl : k = 19 := by omega
      go_wp2_with fail
      go_ret
      exact ⟨_, rfl, HO.out.low (by omega), HB1.out.trans (HB.out.mono (by omega))⟩
end Go.Proofs.YtllkkafajchioaaDoor
