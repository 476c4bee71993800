/- Codec: the reader's lists. -/
import Derived.Test.YtomiacedailmaaaCR
namespace Go.Proofs.Ytomiacedailmaaa
open Go.RowKit

theorem manyP_len (p : List UInt8 → Option (V × List UInt8)) : ∀ (n : Nat) (l : List UInt8) (vs : List V) (l2 : List UInt8), manyP p n l = some (vs, l2) → vs.length = n
  | 0, l, vs, l2, h => by simp [manyP] at h; simp [← h.1]
  | n + 1, l, vs, l2, h => by
    rw [manyP] at h
    split at h
    · cases h
    · split at h
      · cases h
      · rename_i h2
        injection h with h
        injection h with h _
        rw [← h]
        simp [manyP_len p n _ _ _ h2]

def joinP (vs : List V) : Option (List V × List UInt8) → Option (List V × List UInt8)
  | none => none
  | some (r, l) => some (vs ++ r, l)
theorem joinP_snoc (p : List UInt8 → Option (V × List UInt8)) (vs : List V) (m : Nat) (l l1 : List UInt8) (v : V) (h : p l = some (v, l1)) : joinP vs (manyP p (m + 1) l) = joinP (vs ++ [v]) (manyP p m l1) := by
  rw [manyP, h]
  dsimp only
  cases manyP p m l1 with
  | none => rfl
  | some x => simp [joinP]
theorem joinP_none (p : List UInt8 → Option (V × List UInt8)) (vs : List V) (m : Nat) (l : List UInt8) (h : p l = none) : joinP vs (manyP p (m + 1) l) = none := by
  rw [manyP, h]
  rfl

theorem OwnV.slice {w : World} {b : Nat} {v : Value} {l : List El} (h : OwnV w b v l) : ∃ A n cap, v = .slice A n cap := by
  rcases h.2 with ⟨rfl, _⟩ | ⟨g, cap, cur, rfl, _⟩
  · exact ⟨_, _, _, rfl⟩
  · exact ⟨_, _, _, rfl⟩
theorem OwnV.kept {w w' : World} {b : Nat} {v : Value} {l : List El} (h : OwnV w b v l) (hk : ∀ g, v.ownBlock = some g → w'.heap[g]? = w.heap[g]?) : OwnV w' b v l := by
  refine ⟨h.1, ?_⟩
  rcases h.2 with h | ⟨g, cap, cur, e, hg, hh, r⟩
  · exact .inl h
  · exact .inr ⟨g, cap, cur, e, hg, by rw [hk g (by rw [e]; rfl)]; exact hh, r⟩

set_option maxRecDepth 100000 in
set_option maxHeartbeats 1600000 in
theorem list_of (rb B : Nat) (p : List UInt8 → Option (V × List UInt8)) (ar : Int) (har : ar ≤ 16)
    (hval : ∀ (l : List UInt8) (w : World), Rdr w rb B l → l.length < 1099511627776 → Calls Try.prog 37 #[.pointer (some ⟨rb, 0, none⟩), .int .i64 ar] w (VPost rb B w (p l)))
    (hlen : ∀ l v l2, p l = some (v, l2) → l2.length < l.length) (hB : B ≤ rb)
    (l : List UInt8) (w : World) (hr : Rdr w rb B l) (hl : l.length < 1099511627776) :
    Calls Try.prog 51 #[.pointer (some ⟨rb, 0, none⟩), .int .i64 ar] w (LPost rb B w (listP p l)) := by
  have hlt := hr.lt
  obtain ⟨R, hR⟩ : ∃ R, R = listP p l := ⟨_, rfl⟩
  rw [← hR]
  have HV := Lib.hid hval
  have HLEN := Lib.hid hlen
  clear hval hlen
  rcases hn : numP 10 0 l with _ | ⟨n, l1⟩
  · have HR : Hid (R = none) := by show R = none; rw [hR, listP, hn]
    have C := Lib.hid (numeral_bad rb B l w hr hB hn)
    clear hR hn
    go_enter Try.func51, Try.ntmps51
    go_wp2_with fail
    refine C.out.mono ?_
    rintro e w1 ⟨rfl, hg⟩
    refine ⟨rfl, ?_⟩
    rw [HR.out]
    exact ⟨rfl, hg⟩
  · have HR : Hid (R = manyP p n l1) := by show R = _; rw [hR, listP, hn]
    have hnl := numP_lt' hn
    have C := Lib.hid (numeral_ok rb B l w hr hB n l1 hn)
    clear hR hn
    go_enter Try.func51, Try.ntmps51
    go_wp2_with fail
    refine C.out.mono ?_
    rintro e w1 ⟨rfl, hr1, hg1⟩
    have HR1 := Lib.hid hr1
    have HG1 := Lib.hid hg1
    clear hr1 hg1
    go_wp2_with fail
    go_loopw [4, 11] (fun o i wr => ∃ (k : Nat) (E : List El) (l' : List UInt8), k ≤ n ∧ i = .int .u64 k ∧ OwnV wr w.heap.size o E ∧ E.length = k ∧ l'.length + k ≤ l1.length ∧
        (∀ e ∈ E, RdV wr (fun b => w.heap.size ≤ b ∧ b < wr.heap.size ∧ o.ownBlock ≠ some b) e.v e.A e.cap) ∧ Rdr wr rb B l' ∧ R = joinP (E.map El.v) (manyP p (n - k) l') ∧ w.grownBy wr (some rb)) (fun _ i _ => n - (intOf i).toNat)
    case atStart =>
      refine ⟨0, [], l1, Nat.zero_le _, rfl, World.ownsRow_nil _ _ _ _, rfl, Nat.le_refl _, (fun e he => absurd he (by simp)), HR1.out, ?_, HG1.out⟩
      rw [HR.out]
      cases manyP p (n - 0) l1 with
      | none => rfl
      | some x => simp [joinP]
    case round =>
      obtain ⟨k, E, l', hk, rfl, ho, hE, hll, hel, hrd, hRR, hg⟩ := hrel
      by_cases hkn : k < n
      · have D := Lib.hid (HV.out l' wr hrd (by omega))
        have HO := Lib.hid ho
        have HE := Lib.hid hE
        have HEL := Lib.hid hel
        have HRD := Lib.hid hrd
        have HRR := Lib.hid hRR
        have HG := Lib.hid hg
        clear ho hE hel hrd hRR hg
        rcases hp : p l' with _ | ⟨v, l2⟩
        · rw [hp] at D
          have HRN : Hid (R = none) := by
            show R = none
            rw [HRR.out, show n - k = (n - k - 1) + 1 from by omega, joinP_none p _ _ _ hp]
          clear hp
          go_wp2_with fail
          refine D.out.mono ?_
          rintro e w2 ⟨rfl, hg2⟩
          refine ⟨rfl, ?_⟩
          rw [HRN.out]
          exact ⟨rfl, grown2 HG.out hg2⟩
        · rw [hp] at D
          have HRN : Hid (R = joinP (E.map El.v ++ [v]) (manyP p (n - (k + 1)) l2)) := by
            show R = _
            rw [HRR.out, show n - k = (n - (k + 1)) + 1 from by omega, joinP_snoc p _ _ _ _ _ hp]
          have hl2 := HLEN.out _ _ _ hp
          clear hp
          go_wp2_with fail
          refine D.out.mono ?_
          rintro e w2 ⟨A, cap, rfl, hrv, hr2, hg2⟩
          have hz := hg2.size
          have hzw := HG.out.size
          have HO2 := Lib.hid (HO.out.kept fun g hg => hg2.block g (World.ownsRow.lt HO.out g hg).2 (by have := (World.ownsRow.lt HO.out g hg).1; intro e; injection e; omega))
          have HRD2 : Hid (∀ e ∈ E, RdV w2 (fun b => w.heap.size ≤ b ∧ b < wr.heap.size ∧ u4.ownBlock ≠ some b) e.v e.A e.cap) := fun e he => (HEL.out e he).keep fun i hi => ⟨hi, hg2.block i hi.2.1 (by intro e; injection e; omega)⟩
          have HRV := Lib.hid hrv
          have HR2 := Lib.hid hr2
          have HG2 := Lib.hid (grown2 HG.out hg2)
          have hown : ∀ g, u4.ownBlock = some g → g < wr.heap.size := fun g hg => (World.ownsRow.lt HO.out g hg).2
          have HOW := Lib.hid hown
          have HSRC := Lib.hid (heap_alloc_new w2 (.cells #[.int .i64 v.k, .int .i64 v.n, .string v.s, .slice A v.l.len cap] 24))
          have HOA : Hid (OwnV (w2.alloc (.cells #[.int .i64 v.k, .int .i64 v.n, .string v.s, .slice A v.l.len cap] 24)) w.heap.size u4 E) := World.ownsRow.alloc HO2.out _
          clear hrv hr2 hg2 hown
          go_wp2_with (at_builtin; refine app_val rfl (.tmp 13) (.tmp 17) rfl w.heap.size w2.heap.size u4 E ⟨v, A, cap⟩ rfl rfl HOA.out HSRC.out (by have := HE.out; omega) (by simp; omega) ?_; intro v' w3 ho3 hg3 hat; obtain ⟨A', n', cap', rfl⟩ := ho3.slice)
          have HO3 := Lib.hid ho3
          have hza : w2.heap.size + 1 ≤ w3.heap.size := by have := hg3.size; simpa using this
          have hnb : ∀ g, (Value.slice A' n' cap').ownBlock = some g → (u4.ownBlock = some g ∨ g = w2.heap.size + 1) := fun g hg => by
            rcases hat with e | e
            · exact .inl (by rw [← e]; exact hg)
            · refine .inr ?_
              rw [hg] at e
              injection e with e
              simpa using e
          have hk3 : ∀ i, i < w2.heap.size → u4.ownBlock ≠ some i → w3.heap[i]? = w2.heap[i]? := fun i hi hne => (hg3.block i (by simp; omega) (Ne.symm hne)).trans (Below.heap_alloc _ _ _ hi)
          have hgw : w.grownBy w3 (some rb) := by
            refine ⟨hg3.os.trans HG2.out.os, hg3.tape.trans HG2.out.tape, hg3.output.trans HG2.out.output, by omega, fun i hi hne => ?_⟩
            rw [hk3 i (by omega) (fun e => by have := (World.ownsRow.lt HO.out i e).1; omega), HG2.out.block i hi hne]
          have hnew : ∀ e ∈ E ++ [⟨v, A, cap⟩], RdV w3 (fun b => w.heap.size ≤ b ∧ b < w3.heap.size ∧ (Value.slice A' n' cap').ownBlock ≠ some b) e.v e.A e.cap := by
            intro e he
            rcases List.mem_append.1 he with he | he
            · refine (HRD2.out e he).keep fun i hi => ⟨⟨hi.1, by omega, fun hh => ?_⟩, hk3 i (by omega) hi.2.2⟩
              rcases hnb i hh with h | h
              · exact hi.2.2 h
              · omega
            · rw [List.mem_singleton.1 he]
              refine HRV.out.keep fun i hi => ⟨⟨by omega, by omega, fun hh => ?_⟩, hk3 i hi.2 (fun e => by have := HOW.out i e; omega)⟩
              rcases hnb i hh with h | h
              · have := HOW.out i h; omega
              · omega
          have hrd3 : Rdr w3 rb B l2 := by
            obtain ⟨A0, c0, hc0, hb0⟩ := HR2.out
            have hrb : ∀ i, i ≤ rb → w3.heap[i]? = w2.heap[i]? := fun i hi => hk3 i (by omega) (fun e => by have := (World.ownsRow.lt HO.out i e).1; omega)
            exact ⟨A0, c0, (hrb _ (Nat.le_refl _)).trans hc0, hb0.keep fun i hi => ⟨hi, hrb i (by omega)⟩⟩
          have HREL : Hid (∃ (k' : Nat) (E' : List El) (l'' : List UInt8), k' ≤ n ∧ Value.int .u64 ((k : Int) + 1) = .int .u64 k' ∧ OwnV w3 w.heap.size (.slice A' n' cap') E' ∧ E'.length = k' ∧ l''.length + k' ≤ l1.length ∧
              (∀ e ∈ E', RdV w3 (fun b => w.heap.size ≤ b ∧ b < w3.heap.size ∧ (Value.slice A' n' cap').ownBlock ≠ some b) e.v e.A e.cap) ∧ Rdr w3 rb B l'' ∧ R = joinP (E'.map El.v) (manyP p (n - k') l'') ∧ w.grownBy w3 (some rb)) :=
            ⟨k + 1, E ++ [⟨v, A, cap⟩], l2, by omega, rfl, HO3.out, by simp [HE.out], by omega, hnew, hrd3, by rw [HRN.out]; simp, hgw⟩
          clear ho3 hg3 hat hza hnb hk3 hgw hnew hrd3
          go_wp2
          go_roundw
          case rel => exact HREL.out
          case measure => simp [intOf]; omega
      · obtain rfl : k = n := by omega
        have hO := ho.slice
        obtain ⟨A, cap, hv, hsl⟩ := OwnV.sl (S := fun b => w.heap.size ≤ b ∧ b < wr.heap.size) ho (fun g hg => World.ownsRow.lt ho g hg) (fun e he => (hel e he).keep fun i hi => ⟨⟨hi.1, hi.2.1⟩, rfl⟩)
        have HFIN : Hid (LPost rb B w R (.returned u4) wr) := by
          show LPost rb B w R (.returned u4) wr
          rw [hRR, Nat.sub_self, manyP, joinP, List.append_nil]
          refine ⟨A, cap, ?_, hsl, hrd, hg⟩
          rw [hv, List.length_map]
        clear ho hE hll hel hrd hRR hg hv hsl hO
        go_wp2
        go_ret
        exact HFIN.out
end Go.Proofs.Ytomiacedailmaaa
