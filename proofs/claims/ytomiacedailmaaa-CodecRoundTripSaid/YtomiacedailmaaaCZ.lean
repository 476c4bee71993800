/- Codec: encodings and their readings, in plain mathematics. -/
import Derived.Test.YtomiacedailmaaaCU
namespace Go.Proofs.Ytomiacedailmaaa
open Go.RowKit

theorem u8_ofNat (n : Nat) (h : n < 256) : (UInt8.ofNat n).toNat = n := by simp; omega

theorem numP_numf : ∀ (g x acc : Nat) (r : List UInt8), g < 10 → x < 128 ^ (g + 1) → acc + x * 128 ^ (9 - g) < 18446744073709551616 → (g < 9 → 0 < x) →
    numP (g + 1) acc (numf (g + 1) x ++ r) = some (acc + x * 128 ^ (9 - g), r) := by
  intro g
  induction g with
  | zero =>
    intro x acc r _ hx hu hp
    have h2 : x ≤ 1 := by
      rcases Nat.lt_or_ge x 2 with h | h
      · omega
      · have := Nat.mul_le_mul_right (128 ^ (9 - 0)) h; omega
    have h1 := hp (by omega)
    obtain rfl : x = 1 := by omega
    rfl
  | succ g ih =>
    intro x acc r hg hx hu hp
    rw [numf]
    split
    · rename_i hlt
      have e := u8_ofNat x (by omega)
      rw [List.singleton_append, numP, e, if_neg (by omega), if_pos hlt, Nat.mod_eq_of_lt hlt]
    · rename_i hge
      have hm : x % 128 < 128 := Nat.mod_lt _ (by omega)
      have e := u8_ofNat (x % 128 + 128) (by omega)
      have hpow : 128 ^ (9 - g) = 128 ^ (9 - (g + 1)) * 128 := by rw [← Nat.pow_succ]; congr 1; omega
      have hsum : acc + x % 128 * 128 ^ (9 - (g + 1)) + x / 128 * 128 ^ (9 - g) = acc + x * 128 ^ (9 - (g + 1)) := by
        have hx2 : x = x % 128 + 128 * (x / 128) := (Nat.mod_add_div x 128).symm
        generalize 128 ^ (9 - (g + 1)) = p at *
        rw [hpow]
        generalize x / 128 = q at *
        generalize x % 128 = m at *
        subst hx2
        rw [Nat.add_mul, Nat.mul_comm 128 q, Nat.mul_assoc, Nat.mul_comm p 128]
        omega
      rw [List.cons_append, numP, e, if_neg (by omega), if_neg (by omega), show (x % 128 + 128) % 128 = x % 128 from by omega]
      rw [ih (x / 128) _ r (by omega) (by rw [Nat.pow_succ] at hx; omega) (by rw [hsum]; exact hu) (fun _ => by omega), hsum]
theorem numP_num (u : Nat) (r : List UInt8) (h : u < 18446744073709551616) : numP 10 0 (numf 10 u ++ r) = some (u, r) := by
  have := numP_numf 9 u 0 r (by omega) (by omega) (by simpa using h) (fun h => by omega)
  simpa using this

theorem numP_inv : ∀ (g acc : Nat) (l r : List UInt8) (u : Nat), g < 10 → numP (g + 1) acc l = some (u, r) → ∃ x, l = numf (g + 1) x ++ r ∧ u = acc + x * 128 ^ (9 - g) ∧ (g < 9 → 0 < x) := by
  intro g
  induction g with
  | zero =>
    intro acc l r u _ h
    cases l with
    | nil => simp [numP] at h
    | cons c l =>
      rw [numP] at h
      split at h
      · cases h
      · rename_i hf
        have : c.toNat = 1 := by omega
        rw [this] at h
        simp at h
        obtain ⟨rfl, rfl⟩ := h
        have hc : c = UInt8.ofNat 1 := by rw [← this]; simp
        exact ⟨1, by rw [numf, if_pos (by omega), hc]; rfl, by simp, fun _ => by omega⟩
  | succ g ih =>
    intro acc l r u hg h
    cases l with
    | nil => simp [numP] at h
    | cons c l =>
      rw [numP] at h
      split at h
      · cases h
      · rename_i hf
        have hc : c = UInt8.ofNat c.toNat := by simp
        have hlt := c.toNat_lt
        split at h
        · rename_i h128
          injection h with h
          injection h with h1 h2
          subst h2
          refine ⟨c.toNat, ?_, ?_, fun _ => by omega⟩
          · rw [numf, if_pos h128, ← hc]; rfl
          · rw [← h1, Nat.mod_eq_of_lt h128]
        · rename_i h128
          obtain ⟨x, hl, hu, hx⟩ := ih _ _ _ _ (by omega) h
          have hxp := hx (by omega)
          refine ⟨c.toNat % 128 + 128 * x, ?_, ?_, fun _ => by omega⟩
          · rw [numf, if_neg (by omega), hl]
            have e1 : (c.toNat % 128 + 128 * x) % 128 + 128 = c.toNat := by omega
            have e2 : (c.toNat % 128 + 128 * x) / 128 = x := by omega
            rw [e1, e2, ← hc]
            rfl
          · rw [hu]
            have hpow : 128 ^ (9 - g) = 128 ^ (9 - (g + 1)) * 128 := by rw [← Nat.pow_succ]; congr 1; omega
            rw [hpow]
            generalize 128 ^ (9 - (g + 1)) = p
            generalize c.toNat % 128 = m
            rw [Nat.add_mul, Nat.mul_comm 128 x, Nat.mul_assoc, Nat.mul_comm p 128]
            omega
theorem numP_num_inv {l r : List UInt8} {u : Nat} (h : numP 10 0 l = some (u, r)) : l = numf 10 u ++ r := by
  obtain ⟨x, hl, hu, _⟩ := numP_inv 9 0 l r u (by omega) h
  have : u = x := by simpa using hu
  rw [this]; exact hl

theorem sgn_uns (n : Int) : sgn (uns n) = n := by
  unfold sgn uns
  split <;> split <;> omega
theorem uns_sgn (u : Int) (h : 0 ≤ u) : uns (sgn u) = u := by
  unfold sgn uns
  split <;> split <;> omega

def F.fit : F → Prop
  | .nil => True
  | .cons k n s l r => Fits k n s ∧ l.fit ∧ r.fit
def V.fit (v : V) : Prop := Fits v.k v.n v.s ∧ v.l.fit
theorem F.fit_mem {f : F} (h : f.fit) : ∀ v ∈ f.toList, v.fit := by
  induction f with
  | nil => intro v hv; cases hv
  | cons k n s l r _ ih =>
    intro v hv
    rcases List.mem_cons.1 hv with rfl | hv
    · exact ⟨h.1, h.2.1⟩
    · exact ih h.2.2 v hv
theorem F.Rd.fit {w : World} {S : Nat → Prop} (f : F) : ∀ {b o : Nat}, F.Rd w S f b o → f.fit := by
  induction f with
  | nil => intros; trivial
  | cons k n s l r ihl ihr =>
    intro b o h
    obtain ⟨hf, _, _, _, ⟨A, cap, _, _, _, hk⟩, hr⟩ := h
    refine ⟨hf, ?_, ihr hr⟩
    rcases Nat.eq_zero_or_pos l.len with h0 | hp
    · rw [F.toList_nil h0]; trivial
    · obtain ⟨_, _, _, _, hl⟩ := hk hp
      exact ihl hl
theorem Sl.fit {w : World} {S : Nat → Prop} {f : F} {A : Option Addr} {cap : Nat} (h : Sl w S f A cap) : f.fit := by
  rcases Nat.eq_zero_or_pos f.len with h0 | hp
  · rw [F.toList_nil h0]; trivial
  · obtain ⟨_, _, _, _, hr⟩ := h.2.2 hp
    exact hr.fit f
theorem RdV.fit {w : World} {S : Nat → Prop} {v : V} {A : Option Addr} {cap : Nat} (h : RdV w S v A cap) : v.fit := ⟨h.1, h.2.fit⟩

theorem empty_nil : empty ⟨#[]⟩ = true := by unfold empty; rw [ByteArray.toList_eq]; rfl
theorem empty_eq {s : ByteArray} (h : empty s = true) : s = ⟨#[]⟩ := by
  unfold empty at h
  have : s.toList = [] := by simpa using h
  rw [ByteArray.toList_eq] at this
  exact ByteArray.ext (Array.toList_inj.1 this)

theorem manyP_enc (p : List UInt8 → Option (V × List UInt8)) : ∀ (vs : List V) (r : List UInt8), (∀ v ∈ vs, ∀ r, p (v.enc ++ r) = some (v, r)) → manyP p vs.length (vs.flatMap V.enc ++ r) = some (vs, r)
  | [], r, _ => rfl
  | v :: vs, r, h => by
    rw [List.flatMap_cons, List.append_assoc, List.length_cons, manyP, h v (List.mem_cons_self ..)]
    dsimp only
    rw [manyP_enc p vs r (fun u hu => h u (List.mem_cons_of_mem _ hu))]

/-- reading undoes writing -/
theorem valP_enc : ∀ (v : V), v.wf = true → v.fit → ∀ (d : Nat), v.depth ≤ d → d ≤ 16 → v.enc.length < 18446744073709551616 → ∀ r, valP d (v.enc ++ r) = some (v, r) := by
  intro v
  refine V.ind (P := fun v => v.wf = true → v.fit → ∀ (d : Nat), v.depth ≤ d → d ≤ 16 → v.enc.length < 18446744073709551616 → ∀ r, valP d (v.enc ++ r) = some (v, r)) (fun v ih => ?_) v
  intro hwf hfit d hd hd16 hlen r
  have hf := hfit.1
  unfold Fits at hf
  obtain ⟨k, n, s, l⟩ := v
  simp only at hf
  unfold V.wf wf1 at hwf
  simp only at hwf
  split at hwf
  · rename_i hk
    subst hk
    simp at hwf
    obtain ⟨hs, hl⟩ := hwf
    obtain rfl := empty_eq hs
    obtain rfl := F.toList_nil hl
    have e : V.enc ⟨1, n, ⟨#[]⟩, .nil⟩ = 1 :: numf 10 (uns n).toNat := by simp [V.enc, enc1]
    have hb := uns_bd n hf.2.2.1 hf.2.2.2.1
    rw [e, List.cons_append]
    have h1 : (1 : UInt8).toNat = 1 := rfl
    have hn := numP_num (uns n).toNat r (by omega)
    have hu : (((uns n).toNat : Nat) : Int) = uns n := Int.toNat_of_nonneg hb.1
    cases d <;> rw [valP, if_pos h1, hn] <;> simp only [hu, sgn_uns]
  · split at hwf
    · rename_i hk
      subst hk
      simp at hwf
      obtain ⟨rfl, hl⟩ := hwf
      obtain rfl := F.toList_nil hl
      have e : V.enc ⟨2, 0, s, .nil⟩ = 2 :: (numf 10 s.size ++ s.data.toList) := by simp [V.enc, enc1]
      have h1 : ¬ (2 : UInt8).toNat = 1 := by decide
      have h2 : (2 : UInt8).toNat = 2 := rfl
      have hm : s.size < 18446744073709551616 := by have := hf.2.2.2.2; unfold maxLen at this; omega
      have hn := numP_num s.size (s.data.toList ++ r) hm
      have hsl : s.data.toList.length = s.size := by simp
      have ht : (s.data.toList ++ r).take s.size = s.data.toList := by rw [← hsl]; simp
      have hdr : (s.data.toList ++ r).drop s.size = r := by rw [← hsl]; simp
      have hle : s.size ≤ (s.data.toList ++ r).length := by rw [List.length_append, hsl]; omega
      rw [e, List.cons_append, List.append_assoc]
      cases d <;> rw [valP, if_neg h1, if_pos h2, hn] <;> simp only [if_pos hle, ht, hdr] <;> rfl
    · split at hwf
      · rename_i hk
        subst hk
        simp at hwf
        obtain ⟨⟨rfl, hs⟩, hkw⟩ := hwf
        obtain rfl := empty_eq hs
        have e : V.enc ⟨3, 0, ⟨#[]⟩, l⟩ = 3 :: (numf 10 l.len ++ l.enc) := by simp [V.enc, enc1]
        have hdep : V.depth ⟨3, 0, ⟨#[]⟩, l⟩ = dmax l.toList + 1 := by simp [V.depth, d1, F.depth_eq]
        rw [hdep] at hd
        cases d with
        | zero => omega
        | succ d =>
          have hall : ∀ u ∈ l.toList, u.wf = true := by
            rw [F.wf_all, List.all_eq_true] at hkw
            exact hkw
          have hlb : l.len ≤ l.enc.length := by
            rw [F.enc_eq, ← F.len_toList]
            generalize l.toList = vs
            induction vs with
            | nil => simp
            | cons u vs ih =>
              have : 0 < u.enc.length := by unfold V.enc enc1; split <;> (try split) <;> simp
              rw [List.flatMap_cons, List.length_append, List.length_cons]; omega
          have hel : ∀ u ∈ l.toList, u.enc.length ≤ l.enc.length := by
            rw [F.enc_eq]
            generalize l.toList = vs
            induction vs with
            | nil => intro u hu; cases hu
            | cons x vs ih =>
              intro u hu
              rw [List.flatMap_cons, List.length_append]
              rcases List.mem_cons.1 hu with rfl | hu
              · omega
              · have := ih u hu; omega
          have hll : l.enc.length < 18446744073709551616 := by rw [e] at hlen; simp at hlen; omega
          have hn := numP_num l.len (l.enc ++ r) (by omega)
          have hm := manyP_enc (valP d) l.toList r (fun u hu r => ih u hu (hall u hu) (F.fit_mem hfit.2 u hu) d (by have := dmax_mem hu; omega) (by omega) (by have := hel u hu; omega) r)
          rw [F.len_toList, ← F.enc_eq] at hm
          rw [e, List.cons_append, List.append_assoc, valP_list1 d 3 _ rfl, listP, hn]
          simp only [hm, F.ofList_toList]
      · cases hwf

/-- what is read is an encoding -/
theorem valP_inv : ∀ (d : Nat) (l r : List UInt8) (v : V), valP d l = some (v, r) → l = v.enc ++ r ∧ v.wf = true ∧ v.depth ≤ d := by
  have leaf : ∀ (d : Nat) (c : UInt8) (l r : List UInt8) (v : V), ¬ c.toNat = 3 → valP d (c :: l) = some (v, r) → c :: l = v.enc ++ r ∧ v.wf = true ∧ v.depth ≤ d := by
    intro d c l r v h3 h
    have hcc : c = UInt8.ofNat c.toNat := by simp
    by_cases h1 : c.toNat = 1
    · have h' : (match numP 10 0 l with | none => none | some (u, l1) => some ((⟨1, sgn u, ⟨#[]⟩, .nil⟩ : V), l1)) = some (v, r) := by
        cases d <;> (rw [valP, if_pos h1] at h; exact h)
      split at h'
      · cases h'
      · rename_i u l1 hn
        injection h' with h'
        injection h' with e1 e2
        subst e1; subst e2
        refine ⟨?_, by simp [V.wf, wf1, empty_nil, F.len], by simp [V.depth, d1]⟩
        have e : V.enc ⟨1, sgn u, ⟨#[]⟩, .nil⟩ = 1 :: numf 10 (uns (sgn u)).toNat := by simp [V.enc, enc1]
        rw [e, uns_sgn _ (by omega), numP_num_inv hn, hcc, h1]
        rfl
    · by_cases h2 : c.toNat = 2
      · have h' : (match numP 10 0 l with | none => none | some (u, l1) => if u ≤ l1.length then some ((⟨2, 0, ⟨(l1.take u).toArray⟩, .nil⟩ : V), l1.drop u) else none) = some (v, r) := by
          cases d <;> (rw [valP, if_neg h1, if_pos h2] at h; exact h)
        split at h'
        · cases h'
        · rename_i u l1 hn
          split at h'
          · rename_i hle
            injection h' with h'
            injection h' with e1 e2
            subst e1; subst e2
            refine ⟨?_, by simp [V.wf, wf1, F.len], by simp [V.depth, d1]⟩
            have hsz : (ByteArray.mk (l1.take u).toArray).size = u := by
              show (l1.take u).toArray.size = u
              simp; omega
            have e : V.enc ⟨2, 0, ⟨(l1.take u).toArray⟩, .nil⟩ = 2 :: (numf 10 u ++ l1.take u) := by simp [V.enc, enc1, hsz]
            rw [e, numP_num_inv hn, hcc, h2, List.cons_append, List.append_assoc, List.take_append_drop]
            rfl
          · cases h'
      · have : valP d (c :: l) = none := by cases d <;> rw [valP, if_neg h1, if_neg h2, if_neg h3]
        rw [this] at h
        cases h
  have many : ∀ (d : Nat), (∀ (l r : List UInt8) (v : V), valP d l = some (v, r) → l = v.enc ++ r ∧ v.wf = true ∧ v.depth ≤ d) → ∀ (n : Nat) (l r : List UInt8) (vs : List V), manyP (valP d) n l = some (vs, r) →
      l = vs.flatMap V.enc ++ r ∧ (∀ v ∈ vs, v.wf = true ∧ v.depth ≤ d) ∧ vs.length = n := by
    intro d hd n
    induction n with
    | zero =>
      intro l r vs h
      simp [manyP] at h
      obtain ⟨rfl, rfl⟩ := h
      simp
    | succ n ih =>
      intro l r vs h
      rw [manyP] at h
      split at h
      · cases h
      · rename_i v l1 h1
        split at h
        · cases h
        · rename_i vs' l2 h2
          injection h with h
          injection h with e1 e2
          subst e1; subst e2
          obtain ⟨a1, a2, a3⟩ := hd _ _ _ h1
          obtain ⟨b1, b2, b3⟩ := ih _ _ _ h2
          refine ⟨by rw [a1, b1]; simp, ?_, by simp [b3]⟩
          intro u hu
          rcases List.mem_cons.1 hu with rfl | hu
          · exact ⟨a2, a3⟩
          · exact b2 u hu
  intro d
  induction d with
  | zero =>
    intro l r v h
    cases l with
    | nil => simp [valP] at h
    | cons c l =>
      by_cases h3 : c.toNat = 3
      · rw [valP_list0 c l h3] at h; cases h
      · exact leaf 0 c l r v h3 h
  | succ d ih =>
    intro l r v h
    cases l with
    | nil => simp [valP] at h
    | cons c l =>
      by_cases h3 : c.toNat = 3
      · rw [valP_list1 d c l h3] at h
        split at h
        · cases h
        · rename_i vs l1 hl
          injection h with h
          injection h with e1 e2
          subst e1; subst e2
          unfold listP at hl
          split at hl
          · cases hl
          · rename_i n l2 hn
            obtain ⟨b1, b2, b3⟩ := many d ih _ _ _ _ hl
            have hcc : c = UInt8.ofNat c.toNat := by simp
            have e : V.enc ⟨3, 0, ⟨#[]⟩, F.ofList vs⟩ = 3 :: (numf 10 n ++ vs.flatMap V.enc) := by simp [V.enc, enc1, F.enc_eq, F.toList_ofList, len_ofList, b3]
            refine ⟨?_, ?_, ?_⟩
            · rw [e, numP_num_inv hn, b1, hcc, h3, List.cons_append, List.append_assoc]
              rfl
            · have : (F.ofList vs).wf = true := by
                rw [F.wf_all, F.toList_ofList, List.all_eq_true]
                exact fun u hu => (b2 u hu).1
              simp [V.wf, wf1, this, empty_nil]
            · have : dmax vs ≤ d := by
                clear hl b1 b3 e
                induction vs with
                | nil => exact Nat.zero_le _
                | cons u vs ih2 =>
                  have := (b2 u (List.mem_cons_self ..)).2
                  have := ih2 (fun x hx => b2 x (List.mem_cons_of_mem _ hx))
                  simp only [dmax]; omega
              simp only [V.depth, d1, F.depth_eq, F.toList_ofList]
              simp; omega
      · exact leaf (d + 1) c l r v h3 h

theorem decP_enc (v : V) (hc : v.chk = 0) (hf : v.fit) (hl : v.enc.length < 18446744073709551616) : decP v.enc = some v := by
  unfold V.chk at hc
  split at hc
  · split at hc
    · cases hc
    · have := valP_enc v ‹_› hf 16 (by omega) (Nat.le_refl _) hl []
      rw [List.append_nil] at this
      rw [decP, this]
  · cases hc
theorem decP_inv {l : List UInt8} {v : V} (h : decP l = some v) : v.chk = 0 ∧ v.enc = l := by
  unfold decP at h
  split at h
  · rename_i v' hv
    injection h with h
    subst h
    obtain ⟨h1, h2, h3⟩ := valP_inv _ _ _ _ hv
    refine ⟨?_, by rw [h1, List.append_nil]⟩
    rw [V.chk, if_pos h2, if_neg (by omega)]
  · cases h
end Go.Proofs.Ytomiacedailmaaa
