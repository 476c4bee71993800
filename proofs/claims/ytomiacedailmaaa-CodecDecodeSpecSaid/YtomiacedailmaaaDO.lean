/- Proved: for every slice of bytes that can be read as data, in whatever memory and on every schedule, CodecDecodeSpec returns true and its argument reads afterwards as before; there is no further condition. -/
import Derived.Test.YtomiacedailmaaaDN
import Derived.Test.YtomiacedailmaaaCV
namespace Go.Proofs.Ytomiacedailmaaa
open Go.ChangeShapes Go.WideShapes Go.ChangeAt Go.RowKit

/-- what Decode hands back, whichever it is -/
theorem dpost_two {w w' : World} {R : Option V} {e : Ending} (h : DPost w R e w') :
    ∃ (v : V) (A : Option Addr) (cap : Nat) (n : Int), e = .returned (.tuple #[v.val A cap, .int .i64 n]) ∧ RdV w' (fun b => w.heap.size ≤ b ∧ b < w'.heap.size) v A cap ∧ Below w.heap.size w w' ∧
      (R.getD ⟨0, 0, ⟨#[]⟩, .nil⟩ = v) ∧ n = (if R.isSome then 0 else 10) := by
  obtain ⟨hb, hm⟩ := h
  rcases R with _ | v
  · subst hm
    exact ⟨⟨0, 0, ⟨#[]⟩, .nil⟩, none, 0, 10, rfl, rdv_leaf ⟨by decide, by decide, by decide, by decide, Nat.zero_le _⟩, hb, rfl, rfl⟩
  · obtain ⟨A, cap, rfl, hr⟩ := hm
    exact ⟨v, A, cap, 0, rfl, hr, hb, rfl, rfl⟩

set_option maxRecDepth 100000 in
set_option maxHeartbeats 3200000 in
theorem decspec_all (l : List UInt8) (A : Option Addr) (cap : Nat) (w : World) (hl : Byt w (· < w.heap.size) l A cap) :
    Calls Try.prog 4 #[.slice A l.length cap] w fun e w' => e = .returned (.bool true) ∧ Below w.heap.size w w' := by
  have HL := Lib.hid hl
  clear hl
  go_enter Try.func4, Try.ntmps4
  go_wp2_with fail
  refine (sane_all w).mono ?_
  rintro e w1 ⟨rfl, hb1⟩
  have HB1 := Lib.hid hb1
  clear hb1
  by_cases h2 : 2000 < l.length
  · go_wp2_with fail
    go_ret
    exact ⟨rfl, HB1.out⟩
  · have C1 := Lib.hid (decode_all w.heap.size l A cap w1 (HL.out.keep fun i hi => ⟨hi, HB1.out.block i hi⟩) HB1.out.size (by omega))
    go_wp2_with fail
    refine C1.out.mono ?_
    rintro e w2 hd
    obtain ⟨v, A2, c2, n, rfl, hrv, hb2, hv, hn⟩ := dpost_two hd
    have HRV := Lib.hid hrv
    have HB2 := Lib.hid hb2
    have HV := Lib.hid hv
    have HN := Lib.hid hn
    have hz1 := HB1.out.size
    have hz2 := hb2.size
    clear hrv hb2 hv hn hd C1
    go_wp2_with fail
    obtain ⟨W3, hW3⟩ : ∃ W3, W3 = w2.alloc (.cells #[.int .i64 v.k, .int .i64 v.n, .string v.s, .slice A2 v.l.len c2] 24) := ⟨_, rfl⟩
    rw [← hW3]
    have x3 : W3.heap[w2.heap.size]? = some (.cells #[.int .i64 v.k, .int .i64 v.n, .string v.s, .slice A2 v.l.len c2] 24 (0, 0)) := by rw [hW3]; exact heap_alloc_new w2 _
    have hb3 : Below w2.heap.size w2 W3 := by rw [hW3]; exact (Below.refl _ _).alloc (Nat.le_refl _) _
    have hz3 := lt_of_block x3
    have C2 := Lib.hid (rdecode_all l A cap W3 (HL.out.keep fun i hi => ⟨by omega, (hb3.block i (by omega)).trans ((HB2.out.block i (by omega)).trans (HB1.out.block i hi))⟩) (by omega))
    clear hW3
    refine C2.out.mono ?_
    rintro e w4 hd
    obtain ⟨u, A4, c4, m, rfl, hru, hb4, hu, hm⟩ := dpost_two hd
    have huv : u = v := hu.symm.trans HV.out
    have hmn : m = n := hm.trans HN.out.symm
    subst huv hmn
    have x4 := (hb4.block _ hz3).trans x3
    have hrv4 := HRV.out.keep (w' := w4) (S' := (· < w4.heap.size)) fun i hi => ⟨by have := hb4.size; omega, (hb4.block i (by omega)).trans (hb3.block i hi.2)⟩
    have HRU := Lib.hid (hru.keep (w' := w4) (S' := (· < w4.heap.size)) fun i hi => ⟨hi.2, rfl⟩)
    have HRV4 := Lib.hid hrv4
    have hbw : Below w.heap.size w w4 := HB1.out.trans ((HB2.out.trans ((hb3.mono hz2).trans (hb4.mono (by omega)))).mono hz1)
    have HBW := Lib.hid hbw
    have hz4 := hb4.size
    obtain ⟨p0, p1, p2, p3⟩ := box_cells x4
    have hlt4 : w2.heap.size < w4.heap.size := by omega
    clear hru hrv4 hbw hb3 hb4 hd x3 C2 hu hm x4
    go_wp2_with fail
    obtain ⟨W5, hW5⟩ : ∃ W5, W5 = w4.alloc (.cells #[.int .i64 u.k, .int .i64 u.n, .string u.s, .slice A4 u.l.len c4] 24) := ⟨_, rfl⟩
    rw [← hW5]
    have hb5 : Below w4.heap.size w4 W5 := by rw [hW5]; exact (Below.refl _ _).alloc (Nat.le_refl _) _
    clear hW5
    refine (rsame_all u u w4.heap.size A2 A4 c2 c4 W5 (HRV4.out.keep fun i hi => ⟨hi, hb5.block i hi⟩) (HRU.out.keep fun i hi => ⟨hi, hb5.block i hi⟩) hb5.size).mono ?_
    rintro e w6 ⟨rfl, hb6⟩
    rw [(V.same_iff u u).2 rfl]
    have HF := Lib.hid (HBW.out.trans ((hb5.trans (hb6.mono hb5.size)).mono (by have := HBW.out.size; omega)))
    clear hb5 hb6 p0 p1 p2 p3
    go_wp2_with fail
    go_ret
    exact ⟨rfl, HF.out⟩

set_option maxRecDepth 100000 in
theorem decspec_lifted (os : Os) (started : os.Started) (H : Type) (enc : TypeId × Value → H) :
    ReturnsInHanded {} Try.checked os 4 .any (Rows.codecDecodeSpecSpec.pre6 enc Try.prog Try.f4 Rows.codecDecodeSpecRow.domain false) (Rows.codecDecodeSpecSpec.post enc Try.prog Try.f4 false true false false) := by
  refine returnsInHanded_of_change (C := Try.checked) prog_own started (by kernel_rfl) Try.func4
    (ChangeSpec.witness6 (enc := enc) (C := Try.checked) false ⟨#[], #[.slice none 0 0], []⟩ 8 (by kernel_rfl) (by kernel_rfl) (by kernel_rfl) (by kernel_rfl)) ?_
  intro W base args ds gs before hval0 hW _ _
  have hval : ∀ (j : Nat) t v, Try.f4.params[j]? = some t → args[j]? = some v → Value.okWide Try.prog W .any base t v := hval0
  have hW' : DataW.Whole enc Try.prog Try.f4.params.toList Rows.codecDecodeSpecSpec.vars false W args.toList ds gs before := hW
  obtain ⟨p, q, hA0, _, _, _, _⟩ := hW
  have hA : DataW.TrodAll enc Try.prog W 0 (fun _ => true) true Try.f4.params.toList args.toList ds p := hA0
  rw [Try.params4] at hA hval
  obtain ⟨v0, d0, rfl, rfl, h0⟩ := trodAll_one hA
  obtain ⟨x0, A0, c0, rfl, hx0⟩ := arg_bytes (hval 0 27 v0 rfl rfl) h0
  refine (decspec_all x0 A0 c0 W hx0).mono fun e W' ⟨he, hb⟩ => ?_
  subst he
  exact ⟨_, rfl, law_post rfl (fun ds hd => by
    match ds, hd with
    | [_], _ => rfl) (by kernel_rfl) (by
    rw [Try.params4]
    intro t ht
    simp only [List.mem_cons, List.not_mem_nil, or_false] at ht
    rcases ht with rfl
    · exact p_bytes) rfl hW' hb⟩

theorem decspec_holds : Rows.CodecDecodeSpecSaid :=
  OpenClaim.holds_of_wide 4 Try.f4 rfl rfl rfl rfl rfl rfl rfl ⟨rfl, rfl, rfl, rfl, rfl⟩ rfl rfl rfl rfl rfl (by kernel_rfl) Try.func4 (by kernel_rfl)
    (of_decide_eq_true (by kernel_rfl)) (by unfold Func.isWrapper; first | (rw [if_pos (by decide +kernel)]; kernel_rfl) | (rw [if_neg (by decide +kernel)]; exact ⟨rfl, rfl⟩))
    (fun os started H enc _ => decspec_lifted os started H enc)
end Go.Proofs.Ytomiacedailmaaa
