/- Codec: what writes values, part 2. -/
import Derived.Test.YtomiacedailmaaaCI
import Derived.Deep.RegionHeld3
import Derived.Laws.EntriesVeiled
import Derived.StillTailTactics
namespace Go.Proofs.Ytomiacedailmaaa
open Go.RowKit

theorem Keeps.drew {cb : Nat} {a w : World} (h : Keeps cb a w) : Keeps cb a w.drew := ⟨h.os, h.tape, h.output, h.size, h.block⟩

abbrev wtab : Value := .agg #[.nilFunc, .func (.func 54) #[] #[], .func (.func 55) #[] #[], .func (.func 56) #[] #[]]
set_option maxHeartbeats 400000 in
theorem writers_all (w : World) : Calls Try.prog 42 #[] w fun e w' => e = .returned wtab ∧ ∃ o, w' = w.alloc o := by
  go_enter Try.func42, Try.ntmps42
  go_wp2
  exact bodyPost_ret (v := wtab) (by simp [results, Try.results42, go_sem]) rfl ⟨rfl, _, rfl⟩

def enc1 (k n : Int) (s : ByteArray) (len : Nat) (kids : List UInt8) : List UInt8 :=
  if k = 1 then 1 :: numf 10 (uns n).toNat else if k = 2 then 2 :: (numf 10 s.size ++ s.data.toList) else 3 :: (numf 10 len ++ kids)
def F.enc : F → List UInt8
  | .nil => []
  | .cons k n s l r => enc1 k n s l.len l.enc ++ r.enc
def V.enc (v : V) : List UInt8 := enc1 v.k v.n v.s v.l.len v.l.enc
theorem F.enc_eq (f : F) : f.enc = f.toList.flatMap V.enc := by
  induction f with
  | nil => rfl
  | cons k n s l r _ ih => simp [F.enc, F.toList, V.enc, ih]

theorem Out.frame {fd ft : FuncId} {cb : Nat} {St : World → List UInt8 → Prop} (_ : Out fd ft cb St) {B : Nat} {w w' : World} {v : V} {A : Option Addr} {cap : Nat} (hv : RdV w (· < B) v A cap) (hB : B ≤ cb) (hc : cb ≤ w.heap.size) (hk : Keeps cb w w') : RdV w' (· < B) v A cap :=
  hv.below ((hk.to_below hc).mono hB)

theorem uns_bd (n : Int) (h1 : -9223372036854775808 ≤ n) (h2 : n ≤ 9223372036854775807) : 0 ≤ uns n ∧ uns n ≤ 18446744073709551615 := by
  unfold uns
  split <;> omega

theorem two_boxes (w : World) (c c' : Array Value) (t t' : TypeId) : ∃ W1, W1 = (w.alloc (.cells c t)).alloc (.cells c' t') ∧ (∀ i, W1.cell? ⟨w.heap.size, i, none⟩ = c[i]?) ∧ (∀ i, W1.cell? ⟨w.heap.size + 1, i, none⟩ = c'[i]?) ∧
    W1.heap.size = w.heap.size + 2 ∧ Below w.heap.size w W1 ∧ W1.heap[w.heap.size]? = some (.cells c t) ∧ W1.heap[w.heap.size + 1]? = some (.cells c' t') := by
  have h0 : ((w.alloc (.cells c t)).alloc (.cells c' t')).heap[w.heap.size]? = some (.cells c t) := by rw [Below.heap_alloc _ _ _ (by simp)]; exact heap_alloc_new w _
  have h1 : ((w.alloc (.cells c t)).alloc (.cells c' t')).heap[w.heap.size + 1]? = some (.cells c' t') := by
    have := heap_alloc_new (w.alloc (.cells c t)) (.cells c' t')
    rwa [World.size_alloc] at this
  exact ⟨_, rfl, fun i => cell_of_row _ _ _ _ _ _ h0, fun i => cell_of_row _ _ _ _ _ _ h1, by simp, below_alloc2 w _ _, h0, h1⟩

set_option maxRecDepth 100000 in
set_option maxHeartbeats 800000 in
theorem writeInt_all {fd ft : FuncId} {cb : Nat} {St : World → List UInt8 → Prop} (O : Out fd ft cb St) (v : V) (A : Option Addr) (cap : Nat) (l : List UInt8) (w : World)
    (h1 : -9223372036854775808 ≤ v.n) (h2 : v.n ≤ 9223372036854775807) (hs : St w l) (hl : l.length + 10 < 1099511627776) :
    Calls Try.prog 54 #[v.val A cap, outv fd ft cb] w fun e w' => e = .returned (.tuple #[]) ∧ St w' (l ++ numf 10 (uns v.n).toNat) ∧ Keeps cb w w' := by
  have OO := Lib.hid O
  clear O
  have hu := uns_bd v.n h1 h2
  have C := Lib.hid (fun ww hs => writeNumeral_all OO.out (uns v.n) l ww hu.1 hu.2 hs hl)
  have D := Lib.hid (fun ww => uns_any v.n ww h1 h2)
  have HS := Lib.hid hs
  clear hs
  go_enter Try.func54, Try.ntmps54
  go_wp2_with fail
  obtain ⟨W1, hW1, c0, c1, hz, hb, _, _⟩ := two_boxes w #[.int .i64 v.k, .int .i64 v.n, .string v.s, .slice A v.l.len cap] #[.func (.func fd) #[] #[.pointer (some ⟨cb, 0, none⟩)], .func (.func ft) #[] #[.pointer (some ⟨cb, 0, none⟩)]] 24 51
  rw [← hW1]
  have HS1 := Lib.hid (show St W1 l by rw [hW1]; exact OO.out.alloc _ (OO.out.alloc _ HS.out))
  clear hW1
  have c01 := c0 1
  have c10 := c1 0
  have c11 := c1 1
  clear c0 c1
  go_still_tail 4, (by kernel_rfl)
  still_call ((D.out _).mono fun e w' h => ⟨h.1, h.2.symm⟩)
  still_step
  refine wpStill_nil ?_
  change wpList _ _ _ _ _ W1.drew
  go_wp2_with fail
  refine (C.out _ (OO.out.drew HS1.out)).mono ?_
  rintro e w' ⟨rfl, hst, hk⟩
  go_wp2
  go_end0
  exact ⟨rfl, hst, (Keeps.below (hb.drew)).trans hk⟩

set_option maxRecDepth 100000 in
set_option maxHeartbeats 800000 in
theorem writeText_all {fd ft : FuncId} {cb : Nat} {St : World → List UInt8 → Prop} (O : Out fd ft cb St) (v : V) (A : Option Addr) (cap : Nat) (l : List UInt8) (w : World)
    (hs : St w l) (hl : l.length + 10 + v.s.size < 1099511627776) :
    Calls Try.prog 55 #[v.val A cap, outv fd ft cb] w fun e w' => e = .returned (.tuple #[]) ∧ St w' (l ++ (numf 10 v.s.size ++ v.s.data.toList)) ∧ Keeps cb w w' := by
  have OO := Lib.hid O
  have et := O.et
  clear O
  have hlen := numf_len 10 v.s.size
  have C := Lib.hid (fun ww hs => writeNumeral_all OO.out (v.s.size : Int) l ww (by omega) (by omega) hs (by omega))
  have HS := Lib.hid hs
  clear hs
  go_enter Try.func55, Try.ntmps55
  go_wp2_with fail
  obtain ⟨W1, hW1, c0, c1, hz, hb, b0, b1⟩ := two_boxes w #[.int .i64 v.k, .int .i64 v.n, .string v.s, .slice A v.l.len cap] #[.func (.func fd) #[] #[.pointer (some ⟨cb, 0, none⟩)], .func (.func ft) #[] #[.pointer (some ⟨cb, 0, none⟩)]] 24 51
  rw [← hW1]
  have HS1 := Lib.hid (show St W1 l by rw [hW1]; exact OO.out.alloc _ (OO.out.alloc _ HS.out))
  clear hW1
  refine (C.out _ HS1.out).mono ?_
  rintro e w' ⟨rfl, hst, hk⟩
  have hcb := OO.out.lt HS.out
  have hk0 := (Keeps.below (cb := cb) hb).trans hk
  have x0 := hk.cells b0 (by decide) (by omega)
  have x1 := hk.cells b1 (by decide) (by omega)
  have y2 : w'.cell? ⟨w.heap.size, 2, none⟩ = some (.string v.s) := by rw [cell_of_row _ _ _ _ _ _ x0]; rfl
  have y1 : w'.cell? ⟨w.heap.size + 1, 1, none⟩ = some (.func (.func ft) #[] #[.pointer (some ⟨cb, 0, none⟩)]) := by rw [cell_of_row _ _ _ _ _ _ x1]; rfl
  have HST := Lib.hid hst
  have HK := Lib.hid hk0
  have D := Lib.hid (OO.out.text w' _ v.s HST.out (by simp; omega))
  clear hst hk hk0 c0 c1 b0 b1 x0 x1 C hb hz
  go_wp2_with fail
  refine D.out.mono ?_
  rintro e w2 ⟨rfl, hst, hk⟩
  have HST2 := Lib.hid hst
  have HK2 := Lib.hid hk
  clear hst hk y1 y2
  go_wp2
  go_end0
  refine ⟨rfl, ?_, HK.out.trans HK2.out⟩
  have := HST2.out
  rwa [List.append_assoc, Int.toNat_natCast] at this

set_option maxRecDepth 100000 in
set_option maxHeartbeats 800000 in
theorem writeList_of {fd ft : FuncId} {cb : Nat} {St : World → List UInt8 → Prop} (O : Out fd ft cb St) (v : V) (A : Option Addr) (cap B : Nat) (l : List UInt8) (w : World)
    (ih : ∀ u ∈ v.l.toList, ∀ (A : Option Addr) (cap : Nat) (l : List UInt8) (w : World), RdV w (· < B) u A cap → St w l → l.length + u.enc.length + 20 < 1099511627776 →
      Calls Try.prog 26 #[u.val A cap, outv fd ft cb] w fun e w' => e = .returned (.tuple #[]) ∧ St w' (l ++ u.enc) ∧ Keeps cb w w')
    (hv : RdV w (· < B) v A cap) (hB : B ≤ cb) (hs : St w l) (hl : l.length + (numf 10 v.l.len).length + v.l.enc.length + 20 < 1099511627776) :
    Calls Try.prog 56 #[v.val A cap, outv fd ft cb] w fun e w' => e = .returned (.tuple #[]) ∧ St w' (l ++ (numf 10 v.l.len ++ v.l.enc)) ∧ Keeps cb w w' := by
  have OO := Lib.hid O
  clear O
  have hm := hv.2.2.1
  have hm2 := hv.2.1
  unfold maxLen at hm
  have IH := Lib.hid ih
  clear ih
  have hlen := numf_len 10 v.l.len
  have C := Lib.hid (fun ww hs => writeNumeral_all OO.out (v.l.len : Int) l ww (by omega) (by omega) hs (by omega))
  have HS := Lib.hid hs
  clear hs
  go_enter Try.func56, Try.ntmps56
  go_wp2_with fail
  obtain ⟨W1, hW1, c0, c1, hz, hb, b0, b1⟩ := two_boxes w #[.int .i64 v.k, .int .i64 v.n, .string v.s, .slice A v.l.len cap] #[.func (.func fd) #[] #[.pointer (some ⟨cb, 0, none⟩)], .func (.func ft) #[] #[.pointer (some ⟨cb, 0, none⟩)]] 24 51
  rw [← hW1]
  have HS1 := Lib.hid (show St W1 l by rw [hW1]; exact OO.out.alloc _ (OO.out.alloc _ HS.out))
  clear hW1
  refine (C.out _ HS1.out).mono ?_
  rintro e w' ⟨rfl, hst, hk⟩
  have hcb := OO.out.lt HS.out
  have hk0 := (Keeps.below (cb := cb) hb).trans hk
  have x0 := hk.cells b0 (by decide) (by omega)
  have x1 := Lib.hid (hk.cells b1 (by decide) (by omega))
  have y3 : w'.cell? ⟨w.heap.size, 3, none⟩ = some (.slice A v.l.len cap) := by rw [cell_of_row _ _ _ _ _ _ x0]; rfl
  have HST := Lib.hid hst
  have HK := Lib.hid hk0
  have hsz := hk.size
  clear hst hk hk0 c0 c1 b0 b1 x0 C hb
  go_wp2_with fail
  go_loopw [15] (fun i wr => ∃ k : Nat, k ≤ v.l.len ∧ i = .int .i64 k ∧ Keeps cb w' wr ∧ St wr (l ++ (numf 10 v.l.len ++ (v.l.toList.take k).flatMap V.enc))) (fun i _ => v.l.len - (intOf i).toNat)
  case atStart => exact ⟨0, Nat.zero_le _, rfl, Keeps.refl _ _, by have := HST.out; rw [Int.toNat_natCast] at this; simpa using this⟩
  case round =>
    obtain ⟨k, hkk, rfl, hk, hst⟩ := hrel
    have HSR := Lib.hid hst
    have HKR := Lib.hid hk
    clear hst hk y3
    by_cases hlt : k < v.l.len
    · have hbb : Below cb w wr := (HK.out.trans HKR.out).to_below (by omega)
      have hsz2 := HKR.out.size
      have hlr : Sl wr (· < B) v.l A cap := hv.2.below (hbb.mono hB)
      obtain ⟨b, o, u, A', cap', rfl, hS, hu, hrd, h0, h1, h2, h3⟩ := hlr.at_ hlt
      have HU := Lib.hid hu
      have xb := HKR.out.cells x1.out (by decide) (by omega)
      have z0 : (wr.alloc (.cells #[.int .i64 u.k, .int .i64 u.n, .string u.s, .slice A' u.l.len cap'] 24)).cell? ⟨w.heap.size + 1, 0, none⟩ = some (.func (.func fd) #[] #[.pointer (some ⟨cb, 0, none⟩)]) := by
        rw [World.cell?_alloc_past _ _ _ (by show w.heap.size + 1 < _; omega), cell_of_row _ _ _ _ _ _ xb]; rfl
      have z1 : (wr.alloc (.cells #[.int .i64 u.k, .int .i64 u.n, .string u.s, .slice A' u.l.len cap'] 24)).cell? ⟨w.heap.size + 1, 1, none⟩ = some (.func (.func ft) #[] #[.pointer (some ⟨cb, 0, none⟩)]) := by
        rw [World.cell?_alloc_past _ _ _ (by show w.heap.size + 1 < _; omega), cell_of_row _ _ _ _ _ _ xb]; rfl
      have hpre : v.l.enc = (v.l.toList.take k).flatMap V.enc ++ (u.enc ++ (v.l.toList.drop (k + 1)).flatMap V.enc) := by
        rw [F.enc_eq]
        conv => lhs; rw [← List.take_append_drop (k + 1) v.l.toList, take_at hu]
        simp
      have hlen2 : ((v.l.toList.take k).flatMap V.enc).length + u.enc.length ≤ v.l.enc.length := by rw [hpre, List.length_append, List.length_append]; omega
      clear hpre hu xb
      have D := Lib.hid (IH.out u (List.mem_of_getElem? HU.out) A' cap' _ (wr.alloc (.cells #[.int .i64 u.k, .int .i64 u.n, .string u.s, .slice A' u.l.len cap'] 24))
        (hrd.keep fun i hi => ⟨hi, Below.heap_alloc _ _ _ (by omega)⟩) (OO.out.alloc _ HSR.out) (by simp only [List.length_append]; omega))
      go_wp2_with fail
      refine D.out.mono ?_
      rintro e w2 ⟨rfl, hst, hk⟩
      have HST2 := Lib.hid hst
      have HK2 := Lib.hid hk
      clear hst hk z0 z1 h0 h1 h2 h3
      go_wp2
      go_roundw
      case rel =>
        refine ⟨k + 1, by omega, by go_num, (HKR.out.trans (Keeps.alloc _ _ _)).trans HK2.out, ?_⟩
        have := HST2.out
        rw [take_at HU.out]
        simpa using this
      case measure => simp [intOf]; omega
    · obtain rfl : k = v.l.len := by omega
      go_wp2
      go_end0
      refine ⟨rfl, ?_, HK.out.trans HKR.out⟩
      have := HSR.out
      rwa [List.take_of_length_le (by rw [F.len_toList]; exact Nat.le_refl _), ← F.enc_eq] at this

set_option maxRecDepth 100000 in
set_option maxHeartbeats 1600000 in
theorem write_1 {fd ft : FuncId} {cb : Nat} {St : World → List UInt8 → Prop} (O : Out fd ft cb St) (v : V) (A : Option Addr) (cap : Nat) (l m : List UInt8) (w : World) (hk0 : v.k = 1)
    (h : ∀ ww, Below cb w ww → St ww (l ++ [1]) → Calls Try.prog 54 #[v.val A cap, outv fd ft cb] ww fun e w' => e = .returned (.tuple #[]) ∧ St w' (l ++ [1] ++ m) ∧ Keeps cb ww w')
    (hs : St w l) (hl : l.length < 1099511627776) :
    Calls Try.prog 26 #[v.val A cap, outv fd ft cb] w fun e w' => e = .returned (.tuple #[]) ∧ St w' (l ++ [1] ++ m) ∧ Keeps cb w w' := by
  have OO := Lib.hid O
  have ed := O.ed
  clear O
  have hh : ∀ ww, Below cb w ww → St ww (l ++ [1]) → Calls Try.prog 54 #[.agg #[.int .i64 1, .int .i64 v.n, .string v.s, .slice A v.l.len cap], .agg #[.func (.func fd) #[] #[.pointer (some ⟨cb, 0, none⟩)], .func (.func ft) #[] #[.pointer (some ⟨cb, 0, none⟩)]]] ww
      fun e w' => e = .returned (.tuple #[]) ∧ St w' (l ++ [1] ++ m) ∧ Keeps cb ww w' := by
    rw [← hk0]; exact h
  have H := Lib.hid hh
  clear h hh
  have C := Lib.hid (fun ww hs => OO.out.digit ww l 1 hs hl (by omega) (by omega))
  have HS := Lib.hid hs
  clear hs
  go_enter Try.func26, Try.ntmps26
  go_wp2_with fail
  obtain ⟨W1, hW1, c0, c1, hz, hb, b0, b1⟩ := two_boxes w #[.int .i64 1, .int .i64 v.n, .string v.s, .slice A v.l.len cap] #[.func (.func fd) #[] #[.pointer (some ⟨cb, 0, none⟩)], .func (.func ft) #[] #[.pointer (some ⟨cb, 0, none⟩)]] 24 51
  rw [← hW1]
  have HS1 := Lib.hid (show St W1 l by rw [hW1]; exact OO.out.alloc _ (OO.out.alloc _ HS.out))
  have hcb := OO.out.lt HS.out
  clear hW1
  refine (C.out _ HS1.out).mono ?_
  rintro e w' ⟨rfl, hst, hk⟩
  have hk0 := (Keeps.below (cb := cb) hb).trans hk
  have x0 := hk.cells b0 (by decide) (by omega)
  have x1 := hk.cells b1 (by decide) (by omega)
  have HST := Lib.hid hst
  have HK := Lib.hid hk0
  have hsz := hk.size
  clear hst hk hk0 c0 c1 b0 b1 C hb
  have S0 : ∀ i, w'.cell? ⟨w.heap.size, i, none⟩ = (#[Value.int .i64 1, .int .i64 v.n, .string v.s, .slice A v.l.len cap] : Array Value)[i]? := fun i => cell_of_row _ _ _ _ _ _ x0
  have S1 : ∀ i, w'.cell? ⟨w.heap.size + 1, i, none⟩ = (#[Value.func (.func fd) #[] #[.pointer (some ⟨cb, 0, none⟩)], .func (.func ft) #[] #[.pointer (some ⟨cb, 0, none⟩)]] : Array Value)[i]? := fun i => cell_of_row _ _ _ _ _ _ x1
  have a0 : w'.cell? ⟨w.heap.size, 0, none⟩ = some (.int .i64 1) := S0 0
  have a1 : w'.cell? ⟨w.heap.size, 1, none⟩ = some (.int .i64 v.n) := S0 1
  have a2 : w'.cell? ⟨w.heap.size, 2, none⟩ = some (.string v.s) := S0 2
  have a3 : w'.cell? ⟨w.heap.size, 3, none⟩ = some (.slice A v.l.len cap) := S0 3
  have e0 : w'.cell? ⟨w.heap.size + 1, 0, none⟩ = some (.func (.func fd) #[] #[.pointer (some ⟨cb, 0, none⟩)]) := S1 0
  have e1 : w'.cell? ⟨w.heap.size + 1, 1, none⟩ = some (.func (.func ft) #[] #[.pointer (some ⟨cb, 0, none⟩)]) := S1 1
  clear S0 S1
  go_wp2_with fail
  have hidx : ∀ w, (Instr.index 62 wtab (.int .i64 1)).run Try.prog w = .ok (.func (.func 54) #[] #[]) w := fun _ => by kernel_rfl
  have keep : ∀ (o : Obj) (w3 : World), Keeps cb (w'.alloc o).drew w3 → (w3.cell? ⟨w.heap.size, 0, none⟩ = some (.int .i64 1) ∧ w3.cell? ⟨w.heap.size, 1, none⟩ = some (.int .i64 v.n) ∧ w3.cell? ⟨w.heap.size, 2, none⟩ = some (.string v.s) ∧ w3.cell? ⟨w.heap.size, 3, none⟩ = some (.slice A v.l.len cap) ∧
      w3.cell? ⟨w.heap.size + 1, 0, none⟩ = some (.func (.func fd) #[] #[.pointer (some ⟨cb, 0, none⟩)]) ∧ w3.cell? ⟨w.heap.size + 1, 1, none⟩ = some (.func (.func ft) #[] #[.pointer (some ⟨cb, 0, none⟩)])) := fun o w3 hk => by
    have y0 := ((Keeps.alloc cb w' o).drew.trans hk).cells x0 (by decide) (by omega)
    have y1 := ((Keeps.alloc cb w' o).drew.trans hk).cells x1 (by decide) (by omega)
    have p0 : ∀ i, w3.cell? ⟨w.heap.size, i, none⟩ = _ := fun i => cell_of_row _ _ _ _ _ _ y0
    have p1 : ∀ i, w3.cell? ⟨w.heap.size + 1, i, none⟩ = _ := fun i => cell_of_row _ _ _ _ _ _ y1
    exact ⟨p0 0, p0 1, p0 2, p0 3, p1 0, p1 1⟩
  have KEEP := Lib.hid keep
  have hp : ∀ o : Obj, Below cb w (w'.alloc o).drew ∧ St (w'.alloc o).drew (l ++ [1]) ∧ Keeps cb w (w'.alloc o).drew := fun o =>
    ⟨((HK.out.trans (Keeps.alloc _ _ o)).to_below (by omega)).drew, OO.out.drew (OO.out.alloc o HST.out), (HK.out.trans (Keeps.alloc _ _ o)).drew⟩
  have HP := Lib.hid hp
  clear keep hp x0 x1
  go_region_held3 (fun w' => w'.cell? ⟨w.heap.size, 0, none⟩ = some (.int .i64 1) ∧ w'.cell? ⟨w.heap.size, 1, none⟩ = some (.int .i64 v.n) ∧ w'.cell? ⟨w.heap.size, 2, none⟩ = some (.string v.s) ∧ w'.cell? ⟨w.heap.size, 3, none⟩ = some (.slice A v.l.len cap) ∧
      w'.cell? ⟨w.heap.size + 1, 0, none⟩ = some (.func (.func fd) #[] #[.pointer (some ⟨cb, 0, none⟩)]) ∧ w'.cell? ⟨w.heap.size + 1, 1, none⟩ = some (.func (.func ft) #[] #[.pointer (some ⟨cb, 0, none⟩)])) (first | exact ⟨a0, a1, a2, a3, e0, e1⟩ | exact KEEP.out _ _ (Keeps.refl _ _) | exact KEEP.out _ _ hk3)
    (first | (go_at_call 42; refine (writers_all _).mono ?_; rintro e w3 ⟨rfl, o3, rfl⟩)
           | (go_at_call 54; refine (H.out _ (HP.out _).1 (HP.out _).2.1).mono ?_; rintro e w3 ⟨rfl, hst3, hk3⟩))
  go_wp2
  go_end0
  exact ⟨rfl, hst3, (HP.out _).2.2.trans hk3⟩

set_option maxRecDepth 100000 in
set_option maxHeartbeats 1600000 in
theorem write_2 {fd ft : FuncId} {cb : Nat} {St : World → List UInt8 → Prop} (O : Out fd ft cb St) (v : V) (A : Option Addr) (cap : Nat) (l m : List UInt8) (w : World) (hk0 : v.k = 2)
    (h : ∀ ww, Below cb w ww → St ww (l ++ [2]) → Calls Try.prog 55 #[v.val A cap, outv fd ft cb] ww fun e w' => e = .returned (.tuple #[]) ∧ St w' (l ++ [2] ++ m) ∧ Keeps cb ww w')
    (hs : St w l) (hl : l.length < 1099511627776) :
    Calls Try.prog 26 #[v.val A cap, outv fd ft cb] w fun e w' => e = .returned (.tuple #[]) ∧ St w' (l ++ [2] ++ m) ∧ Keeps cb w w' := by
  have OO := Lib.hid O
  have ed := O.ed
  clear O
  have hh : ∀ ww, Below cb w ww → St ww (l ++ [2]) → Calls Try.prog 55 #[.agg #[.int .i64 2, .int .i64 v.n, .string v.s, .slice A v.l.len cap], .agg #[.func (.func fd) #[] #[.pointer (some ⟨cb, 0, none⟩)], .func (.func ft) #[] #[.pointer (some ⟨cb, 0, none⟩)]]] ww
      fun e w' => e = .returned (.tuple #[]) ∧ St w' (l ++ [2] ++ m) ∧ Keeps cb ww w' := by
    rw [← hk0]; exact h
  have H := Lib.hid hh
  clear h hh
  have C := Lib.hid (fun ww hs => OO.out.digit ww l 2 hs hl (by omega) (by omega))
  have HS := Lib.hid hs
  clear hs
  go_enter Try.func26, Try.ntmps26
  go_wp2_with fail
  obtain ⟨W1, hW1, c0, c1, hz, hb, b0, b1⟩ := two_boxes w #[.int .i64 2, .int .i64 v.n, .string v.s, .slice A v.l.len cap] #[.func (.func fd) #[] #[.pointer (some ⟨cb, 0, none⟩)], .func (.func ft) #[] #[.pointer (some ⟨cb, 0, none⟩)]] 24 51
  rw [← hW1]
  have HS1 := Lib.hid (show St W1 l by rw [hW1]; exact OO.out.alloc _ (OO.out.alloc _ HS.out))
  have hcb := OO.out.lt HS.out
  clear hW1
  refine (C.out _ HS1.out).mono ?_
  rintro e w' ⟨rfl, hst, hk⟩
  have hk0 := (Keeps.below (cb := cb) hb).trans hk
  have x0 := hk.cells b0 (by decide) (by omega)
  have x1 := hk.cells b1 (by decide) (by omega)
  have HST := Lib.hid hst
  have HK := Lib.hid hk0
  have hsz := hk.size
  clear hst hk hk0 c0 c1 b0 b1 C hb
  have S0 : ∀ i, w'.cell? ⟨w.heap.size, i, none⟩ = (#[Value.int .i64 2, .int .i64 v.n, .string v.s, .slice A v.l.len cap] : Array Value)[i]? := fun i => cell_of_row _ _ _ _ _ _ x0
  have S1 : ∀ i, w'.cell? ⟨w.heap.size + 1, i, none⟩ = (#[Value.func (.func fd) #[] #[.pointer (some ⟨cb, 0, none⟩)], .func (.func ft) #[] #[.pointer (some ⟨cb, 0, none⟩)]] : Array Value)[i]? := fun i => cell_of_row _ _ _ _ _ _ x1
  have a0 : w'.cell? ⟨w.heap.size, 0, none⟩ = some (.int .i64 2) := S0 0
  have a1 : w'.cell? ⟨w.heap.size, 1, none⟩ = some (.int .i64 v.n) := S0 1
  have a2 : w'.cell? ⟨w.heap.size, 2, none⟩ = some (.string v.s) := S0 2
  have a3 : w'.cell? ⟨w.heap.size, 3, none⟩ = some (.slice A v.l.len cap) := S0 3
  have e0 : w'.cell? ⟨w.heap.size + 1, 0, none⟩ = some (.func (.func fd) #[] #[.pointer (some ⟨cb, 0, none⟩)]) := S1 0
  have e1 : w'.cell? ⟨w.heap.size + 1, 1, none⟩ = some (.func (.func ft) #[] #[.pointer (some ⟨cb, 0, none⟩)]) := S1 1
  clear S0 S1
  go_wp2_with fail
  have hidx : ∀ w, (Instr.index 62 wtab (.int .i64 2)).run Try.prog w = .ok (.func (.func 55) #[] #[]) w := fun _ => by kernel_rfl
  have keep : ∀ (o : Obj) (w3 : World), Keeps cb (w'.alloc o).drew w3 → (w3.cell? ⟨w.heap.size, 0, none⟩ = some (.int .i64 2) ∧ w3.cell? ⟨w.heap.size, 1, none⟩ = some (.int .i64 v.n) ∧ w3.cell? ⟨w.heap.size, 2, none⟩ = some (.string v.s) ∧ w3.cell? ⟨w.heap.size, 3, none⟩ = some (.slice A v.l.len cap) ∧
      w3.cell? ⟨w.heap.size + 1, 0, none⟩ = some (.func (.func fd) #[] #[.pointer (some ⟨cb, 0, none⟩)]) ∧ w3.cell? ⟨w.heap.size + 1, 1, none⟩ = some (.func (.func ft) #[] #[.pointer (some ⟨cb, 0, none⟩)])) := fun o w3 hk => by
    have y0 := ((Keeps.alloc cb w' o).drew.trans hk).cells x0 (by decide) (by omega)
    have y1 := ((Keeps.alloc cb w' o).drew.trans hk).cells x1 (by decide) (by omega)
    have p0 : ∀ i, w3.cell? ⟨w.heap.size, i, none⟩ = _ := fun i => cell_of_row _ _ _ _ _ _ y0
    have p1 : ∀ i, w3.cell? ⟨w.heap.size + 1, i, none⟩ = _ := fun i => cell_of_row _ _ _ _ _ _ y1
    exact ⟨p0 0, p0 1, p0 2, p0 3, p1 0, p1 1⟩
  have KEEP := Lib.hid keep
  have hp : ∀ o : Obj, Below cb w (w'.alloc o).drew ∧ St (w'.alloc o).drew (l ++ [2]) ∧ Keeps cb w (w'.alloc o).drew := fun o =>
    ⟨((HK.out.trans (Keeps.alloc _ _ o)).to_below (by omega)).drew, OO.out.drew (OO.out.alloc o HST.out), (HK.out.trans (Keeps.alloc _ _ o)).drew⟩
  have HP := Lib.hid hp
  clear keep hp x0 x1
  go_region_held3 (fun w' => w'.cell? ⟨w.heap.size, 0, none⟩ = some (.int .i64 2) ∧ w'.cell? ⟨w.heap.size, 1, none⟩ = some (.int .i64 v.n) ∧ w'.cell? ⟨w.heap.size, 2, none⟩ = some (.string v.s) ∧ w'.cell? ⟨w.heap.size, 3, none⟩ = some (.slice A v.l.len cap) ∧
      w'.cell? ⟨w.heap.size + 1, 0, none⟩ = some (.func (.func fd) #[] #[.pointer (some ⟨cb, 0, none⟩)]) ∧ w'.cell? ⟨w.heap.size + 1, 1, none⟩ = some (.func (.func ft) #[] #[.pointer (some ⟨cb, 0, none⟩)])) (first | exact ⟨a0, a1, a2, a3, e0, e1⟩ | exact KEEP.out _ _ (Keeps.refl _ _) | exact KEEP.out _ _ hk3)
    (first | (go_at_call 42; refine (writers_all _).mono ?_; rintro e w3 ⟨rfl, o3, rfl⟩)
           | (go_at_call 55; refine (H.out _ (HP.out _).1 (HP.out _).2.1).mono ?_; rintro e w3 ⟨rfl, hst3, hk3⟩))
  go_wp2
  go_end0
  exact ⟨rfl, hst3, (HP.out _).2.2.trans hk3⟩

set_option maxRecDepth 100000 in
set_option maxHeartbeats 1600000 in
theorem write_3 {fd ft : FuncId} {cb : Nat} {St : World → List UInt8 → Prop} (O : Out fd ft cb St) (v : V) (A : Option Addr) (cap : Nat) (l m : List UInt8) (w : World) (hk0 : v.k = 3)
    (h : ∀ ww, Below cb w ww → St ww (l ++ [3]) → Calls Try.prog 56 #[v.val A cap, outv fd ft cb] ww fun e w' => e = .returned (.tuple #[]) ∧ St w' (l ++ [3] ++ m) ∧ Keeps cb ww w')
    (hs : St w l) (hl : l.length < 1099511627776) :
    Calls Try.prog 26 #[v.val A cap, outv fd ft cb] w fun e w' => e = .returned (.tuple #[]) ∧ St w' (l ++ [3] ++ m) ∧ Keeps cb w w' := by
  have OO := Lib.hid O
  have ed := O.ed
  clear O
  have hh : ∀ ww, Below cb w ww → St ww (l ++ [3]) → Calls Try.prog 56 #[.agg #[.int .i64 3, .int .i64 v.n, .string v.s, .slice A v.l.len cap], .agg #[.func (.func fd) #[] #[.pointer (some ⟨cb, 0, none⟩)], .func (.func ft) #[] #[.pointer (some ⟨cb, 0, none⟩)]]] ww
      fun e w' => e = .returned (.tuple #[]) ∧ St w' (l ++ [3] ++ m) ∧ Keeps cb ww w' := by
    rw [← hk0]; exact h
  have H := Lib.hid hh
  clear h hh
  have C := Lib.hid (fun ww hs => OO.out.digit ww l 3 hs hl (by omega) (by omega))
  have HS := Lib.hid hs
  clear hs
  go_enter Try.func26, Try.ntmps26
  go_wp2_with fail
  obtain ⟨W1, hW1, c0, c1, hz, hb, b0, b1⟩ := two_boxes w #[.int .i64 3, .int .i64 v.n, .string v.s, .slice A v.l.len cap] #[.func (.func fd) #[] #[.pointer (some ⟨cb, 0, none⟩)], .func (.func ft) #[] #[.pointer (some ⟨cb, 0, none⟩)]] 24 51
  rw [← hW1]
  have HS1 := Lib.hid (show St W1 l by rw [hW1]; exact OO.out.alloc _ (OO.out.alloc _ HS.out))
  have hcb := OO.out.lt HS.out
  clear hW1
  refine (C.out _ HS1.out).mono ?_
  rintro e w' ⟨rfl, hst, hk⟩
  have hk0 := (Keeps.below (cb := cb) hb).trans hk
  have x0 := hk.cells b0 (by decide) (by omega)
  have x1 := hk.cells b1 (by decide) (by omega)
  have HST := Lib.hid hst
  have HK := Lib.hid hk0
  have hsz := hk.size
  clear hst hk hk0 c0 c1 b0 b1 C hb
  have S0 : ∀ i, w'.cell? ⟨w.heap.size, i, none⟩ = (#[Value.int .i64 3, .int .i64 v.n, .string v.s, .slice A v.l.len cap] : Array Value)[i]? := fun i => cell_of_row _ _ _ _ _ _ x0
  have S1 : ∀ i, w'.cell? ⟨w.heap.size + 1, i, none⟩ = (#[Value.func (.func fd) #[] #[.pointer (some ⟨cb, 0, none⟩)], .func (.func ft) #[] #[.pointer (some ⟨cb, 0, none⟩)]] : Array Value)[i]? := fun i => cell_of_row _ _ _ _ _ _ x1
  have a0 : w'.cell? ⟨w.heap.size, 0, none⟩ = some (.int .i64 3) := S0 0
  have a1 : w'.cell? ⟨w.heap.size, 1, none⟩ = some (.int .i64 v.n) := S0 1
  have a2 : w'.cell? ⟨w.heap.size, 2, none⟩ = some (.string v.s) := S0 2
  have a3 : w'.cell? ⟨w.heap.size, 3, none⟩ = some (.slice A v.l.len cap) := S0 3
  have e0 : w'.cell? ⟨w.heap.size + 1, 0, none⟩ = some (.func (.func fd) #[] #[.pointer (some ⟨cb, 0, none⟩)]) := S1 0
  have e1 : w'.cell? ⟨w.heap.size + 1, 1, none⟩ = some (.func (.func ft) #[] #[.pointer (some ⟨cb, 0, none⟩)]) := S1 1
  clear S0 S1
  go_wp2_with fail
  have hidx : ∀ w, (Instr.index 62 wtab (.int .i64 3)).run Try.prog w = .ok (.func (.func 56) #[] #[]) w := fun _ => by kernel_rfl
  have keep : ∀ (o : Obj) (w3 : World), Keeps cb (w'.alloc o).drew w3 → (w3.cell? ⟨w.heap.size, 0, none⟩ = some (.int .i64 3) ∧ w3.cell? ⟨w.heap.size, 1, none⟩ = some (.int .i64 v.n) ∧ w3.cell? ⟨w.heap.size, 2, none⟩ = some (.string v.s) ∧ w3.cell? ⟨w.heap.size, 3, none⟩ = some (.slice A v.l.len cap) ∧
      w3.cell? ⟨w.heap.size + 1, 0, none⟩ = some (.func (.func fd) #[] #[.pointer (some ⟨cb, 0, none⟩)]) ∧ w3.cell? ⟨w.heap.size + 1, 1, none⟩ = some (.func (.func ft) #[] #[.pointer (some ⟨cb, 0, none⟩)])) := fun o w3 hk => by
    have y0 := ((Keeps.alloc cb w' o).drew.trans hk).cells x0 (by decide) (by omega)
    have y1 := ((Keeps.alloc cb w' o).drew.trans hk).cells x1 (by decide) (by omega)
    have p0 : ∀ i, w3.cell? ⟨w.heap.size, i, none⟩ = _ := fun i => cell_of_row _ _ _ _ _ _ y0
    have p1 : ∀ i, w3.cell? ⟨w.heap.size + 1, i, none⟩ = _ := fun i => cell_of_row _ _ _ _ _ _ y1
    exact ⟨p0 0, p0 1, p0 2, p0 3, p1 0, p1 1⟩
  have KEEP := Lib.hid keep
  have hp : ∀ o : Obj, Below cb w (w'.alloc o).drew ∧ St (w'.alloc o).drew (l ++ [3]) ∧ Keeps cb w (w'.alloc o).drew := fun o =>
    ⟨((HK.out.trans (Keeps.alloc _ _ o)).to_below (by omega)).drew, OO.out.drew (OO.out.alloc o HST.out), (HK.out.trans (Keeps.alloc _ _ o)).drew⟩
  have HP := Lib.hid hp
  clear keep hp x0 x1
  go_region_held3 (fun w' => w'.cell? ⟨w.heap.size, 0, none⟩ = some (.int .i64 3) ∧ w'.cell? ⟨w.heap.size, 1, none⟩ = some (.int .i64 v.n) ∧ w'.cell? ⟨w.heap.size, 2, none⟩ = some (.string v.s) ∧ w'.cell? ⟨w.heap.size, 3, none⟩ = some (.slice A v.l.len cap) ∧
      w'.cell? ⟨w.heap.size + 1, 0, none⟩ = some (.func (.func fd) #[] #[.pointer (some ⟨cb, 0, none⟩)]) ∧ w'.cell? ⟨w.heap.size + 1, 1, none⟩ = some (.func (.func ft) #[] #[.pointer (some ⟨cb, 0, none⟩)])) (first | exact ⟨a0, a1, a2, a3, e0, e1⟩ | exact KEEP.out _ _ (Keeps.refl _ _) | exact KEEP.out _ _ hk3)
    (first | (go_at_call 42; refine (writers_all _).mono ?_; rintro e w3 ⟨rfl, o3, rfl⟩)
           | (go_at_call 56; refine (H.out _ (HP.out _).1 (HP.out _).2.1).mono ?_; rintro e w3 ⟨rfl, hst3, hk3⟩))
  go_wp2
  go_end0
  exact ⟨rfl, hst3, (HP.out _).2.2.trans hk3⟩

end Go.Proofs.Ytomiacedailmaaa
