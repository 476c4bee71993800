/- Codec: the reader, whole. -/
import Derived.Test.YtomiacedailmaaaCS
namespace Go.Proofs.Ytomiacedailmaaa
open Go.RowKit

set_option maxRecDepth 100000 in
set_option maxHeartbeats 800000 in
theorem list_deep (rb : Nat) (ar : Int) (har : 16 < ar) (w : World) :
    Calls Try.prog 51 #[.pointer (some ⟨rb, 0, none⟩), .int .i64 ar] w fun e w' => e = .panicked boom ∧ w = w' := by
  go_enter Try.func51, Try.ntmps51
  go_wp2_with (go_at_call 38; refine (fail_all _ _).mono ?_; rintro e w' ⟨rfl, rfl⟩)
  exact ⟨rfl, rfl, rfl⟩

theorem valP_list0 (c : UInt8) (r : List UInt8) (hc : c.toNat = 3) : valP 0 (c :: r) = none := by
  rw [valP, if_neg (by omega), if_neg (by omega), if_pos hc]
theorem valP_list1 (d : Nat) (c : UInt8) (r : List UInt8) (hc : c.toNat = 3) : valP (d + 1) (c :: r) = (match listP (valP d) r with | none => none | some (vs, l1) => some (⟨3, 0, ⟨#[]⟩, F.ofList vs⟩, l1)) := by
  rw [valP, if_neg (by omega), if_neg (by omega), if_pos hc]
  cases listP (valP d) r <;> rfl

set_option maxRecDepth 100000 in
set_option maxHeartbeats 1600000 in
theorem value_list (rb B : Nat) (c : UInt8) (r : List UInt8) (d : Nat) (w : World) (hd : d ≤ 16) (hr : Rdr w rb B (c :: r)) (hB : B ≤ rb) (hc : c.toNat = 3) (ar : Int) (har : ar = 16 - (d : Int))
    (hlist : ∀ d', d = d' + 1 → ∀ (w : World), Rdr w rb B r → Calls Try.prog 51 #[.pointer (some ⟨rb, 0, none⟩), .int .i64 (ar + 1)] w (LPost rb B w (listP (valP d') r))) :
    Calls Try.prog 37 #[.pointer (some ⟨rb, 0, none⟩), .int .i64 ar] w (VPost rb B w (valP d (c :: r))) := by
  have hlt := hr.lt
  have C := Lib.hid (digit_ok rb B c r (w.alloc (.cells zero4 24)) (hr.far (fun k hk => Below.heap_alloc _ _ _ hk) (by omega)) hB)
  rw [hc] at C
  have HC := Lib.hid hc
  obtain ⟨R, hR⟩ : ∃ R, R = valP d (c :: r) := ⟨_, rfl⟩
  rw [← hR]
  have HR := Lib.hid hR
  have HLI := Lib.hid hlist
  have a0 : -1 ≤ ar := by omega
  have a1 : ar ≤ 16 := by omega
  have HAR := Lib.hid har
  clear hR hc hr hlist har
  go_enter Try.func37, Try.ntmps37
  go_wp2_with fail
  refine C.out.mono ?_
  rintro e w1 ⟨rfl, hr1, hg1⟩
  obtain ⟨hb0, hr2, hb2, hg2, hz2⟩ := value_head rb B c r w w1 hB hlt hr1 hg1
  rw [HC.out] at hr2 hb2 hg2 hz2
  have c0 : w1.cell? ⟨w.heap.size, 0, none⟩ = some (.int .i64 0) := by rw [cell_of_row _ _ _ _ _ _ hb0]; rfl
  have f0 := cells_frozen hb0 0
  have HG2 := Lib.hid hg2
  have HB2 := Lib.hid hb2
  have HR2 := Lib.hid hr2
  clear hr1 hg1 hb0 hr2 hb2 hg2
  cases d with
  | zero =>
    have HN : Hid (R = none) := HR.out.trans (valP_list0 c r HC.out)
    have D := Lib.hid (fun ww => list_deep rb (ar + 1) (by have := HAR.out; omega) ww)
    go_wp2_with fail
    refine (D.out _).mono ?_
    rintro e w2 ⟨rfl, rfl⟩
    refine ⟨rfl, ?_⟩
    rw [HN.out]
    exact ⟨rfl, HG2.out⟩
  | succ d' =>
    have D := Lib.hid (HLI.out d' rfl _ HR2.out)
    go_wp2_with fail
    refine D.out.mono ?_
    rcases hl : listP (valP d') r with _ | ⟨vs, l1⟩
    · rintro e w2 ⟨rfl, hg3⟩
      refine ⟨rfl, ?_⟩
      rw [HR.out, valP_list1 d' c r HC.out]
      simp only [hl]
      exact ⟨rfl, grown2 HG2.out hg3⟩
    · rintro e w2 ⟨A, cap, rfl, hsl, hr3, hg3⟩
      have hb3 := (hg3.block w.heap.size hz2 (by intro e; injection e; omega)).trans HB2.out
      have HG3 := Lib.hid (grown2 HG2.out hg3)
      have HR3 := Lib.hid hr3
      have HSL := Lib.hid hsl
      have k0 : w2.cell? ⟨w.heap.size, 0, none⟩ = some (.int .i64 3) := by rw [cell_of_row _ _ _ _ _ _ hb3]; rfl
      have k1 : w2.cell? ⟨w.heap.size, 1, none⟩ = some (.int .i64 0) := by rw [cell_of_row _ _ _ _ _ _ hb3]; rfl
      have k2 : w2.cell? ⟨w.heap.size, 2, none⟩ = some (.string ⟨#[]⟩) := by rw [cell_of_row _ _ _ _ _ _ hb3]; rfl
      have k3 : w2.cell? ⟨w.heap.size, 3, none⟩ = some (.slice none 0 0) := by rw [cell_of_row _ _ _ _ _ _ hb3]; rfl
      have g0 := cells_frozen hb3 0
      have g1 := cells_frozen hb3 1
      have g2 := cells_frozen hb3 2
      have g3 := cells_frozen hb3 3
      have hlen : vs.length = (F.ofList vs).len := by rw [len_ofList]
      have HLEN := Lib.hid hlen
      have HRR : Hid (R = some (⟨3, 0, ⟨#[]⟩, F.ofList vs⟩, l1)) := by
        show R = _
        rw [HR.out, valP_list1 d' c r HC.out]
        simp only [hl]
      have hs0 := hg3.size
      clear c0 f0 hb3 hr3 hg3 hsl hl hlen
      go_wp2
      have hx := set5 HR3.out HG3.out hlt hB
      refine bodyPost_ret (v := .agg #[.int .i64 3, .int .i64 0, .string ⟨#[]⟩, .slice A vs.length cap]) (by simp [results, Try.results37, go_sem, k0, k1, k2, k3]) rfl ?_
      rw [HRR.out]
      refine ⟨A, cap, by rw [HLEN.out], ⟨(show Fits 3 0 ⟨#[]⟩ from ⟨by omega, by omega, by omega, by omega, Nat.zero_le _⟩), HSL.out.keep fun i hi => ⟨⟨by omega, ?_⟩, ?_⟩⟩, (hx _ _ _ _ _ _ _ _ _ _).1, (hx _ _ _ _ _ _ _ _ _ _).2⟩
      · simp only [World.setCell, Array.size_modify]
        exact hi.2
      · have hne : i ≠ w.heap.size := by omega
        rw [Below.heap_setCell _ _ _ _ hne, Below.heap_setCell _ _ _ _ hne, Below.heap_setCell _ _ _ _ hne, Below.heap_setCell _ _ _ _ hne, Below.heap_setCell _ _ _ _ hne]

theorem valP_lt : ∀ (d : Nat) (l : List UInt8) (v : V) (l2 : List UInt8), valP d l = some (v, l2) → l2.length < l.length := by
  have many : ∀ (p : List UInt8 → Option (V × List UInt8)), (∀ l v l2, p l = some (v, l2) → l2.length < l.length) → ∀ n l vs l2, manyP p n l = some (vs, l2) → l2.length ≤ l.length := by
    intro p hp n
    induction n with
    | zero => intro l vs l2 h; simp [manyP] at h; simp [h.2]
    | succ n ih =>
      intro l vs l2 h
      rw [manyP] at h
      split at h
      · cases h
      · rename_i h1
        split at h
        · cases h
        · rename_i h2
          injection h with h
          injection h with _ h
          subst h
          have := hp _ _ _ h1
          have := ih _ _ _ h2
          omega
  intro d
  induction d with
  | zero =>
    intro l v l2 h
    cases l with
    | nil => simp [valP] at h
    | cons c r =>
      rw [valP] at h
      split at h
      · split at h
        · cases h
        · rename_i hn
          injection h with h; injection h with _ h; subst h
          have := (numP_lt' hn).2
          simp; omega
      · split at h
        · split at h
          · cases h
          · rename_i hn
            split at h
            · injection h with h; injection h with _ h; subst h
              have := (numP_lt' hn).2
              simp; omega
            · cases h
        · split at h <;> cases h
  | succ d ih =>
    intro l v l2 h
    cases l with
    | nil => simp [valP] at h
    | cons c r =>
      rw [valP] at h
      split at h
      · split at h
        · cases h
        · rename_i hn
          injection h with h; injection h with _ h; subst h
          have := (numP_lt' hn).2
          simp; omega
      · split at h
        · split at h
          · cases h
          · rename_i hn
            split at h
            · injection h with h; injection h with _ h; subst h
              have := (numP_lt' hn).2
              simp; omega
            · cases h
        · split at h
          · split at h
            · cases h
            · rename_i hl
              injection h with h; injection h with _ h; subst h
              unfold listP at hl
              split at hl
              · cases hl
              · rename_i hn
                have := (numP_lt' hn).2
                have := many (valP d) ih _ _ _ _ hl
                simp; omega
          · cases h

theorem value_all (d : Nat) : ∀ (rb B : Nat) (l : List UInt8) (w : World) (ar : Int), d ≤ 16 → ar = 16 - (d : Int) → Rdr w rb B l → l.length < 1099511627776 → B ≤ rb →
    Calls Try.prog 37 #[.pointer (some ⟨rb, 0, none⟩), .int .i64 ar] w (VPost rb B w (valP d l)) := by
  induction d with
  | zero =>
    intro rb B l w ar hd har hr hl hB
    cases l with
    | nil => exact value_none rb B 0 ar w hr hB
    | cons c r =>
      by_cases h1 : c.toNat = 1
      · exact value_int rb B c r 0 ar w hr hB h1
      · by_cases h2 : c.toNat = 2
        · exact value_text rb B c r 0 ar w hr hB h2
        · by_cases h3 : c.toNat = 3
          · exact value_list rb B c r 0 w hd hr hB h3 ar har (fun d' h => by omega)
          · exact value_other rb B c r 0 ar w hr hB h1 h2 h3
  | succ d ih =>
    intro rb B l w ar hd har hr hl hB
    cases l with
    | nil => exact value_none rb B _ ar w hr hB
    | cons c r =>
      by_cases h1 : c.toNat = 1
      · exact value_int rb B c r _ ar w hr hB h1
      · by_cases h2 : c.toNat = 2
        · exact value_text rb B c r _ ar w hr hB h2
        · by_cases h3 : c.toNat = 3
          · refine value_list rb B c r _ w hd hr hB h3 ar har (fun d' h w hr => ?_)
            obtain rfl : d = d' := by omega
            simp only [List.length_cons] at hl
            exact list_of rb B (valP d) (ar + 1) (by omega) (fun l w hr hl => ih rb B l w (ar + 1) (by omega) (by omega) hr hl hB) (fun l v l2 h => valP_lt d l v l2 h) hB r w hr (by omega)
          · exact value_other rb B c r _ ar w hr hB h1 h2 h3
end Go.Proofs.Ytomiacedailmaaa
