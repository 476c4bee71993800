/- Codec: the last step of the statements; what the guard on sizes says. -/
import Derived.Test.YtomiacedailmaaaCX
import Derived.Test.YtomiacedailmaaaCZ
namespace Go.Proofs.Ytomiacedailmaaa
open Go.ChangeShapes Go.WideShapes Go.ChangeAt Go.RowKit

theorem p_int : Try.prog.readableRec 3 = true ∧ 3 < Try.prog.types.size := ⟨read_int, of_decide_eq_true (by kernel_rfl)⟩
theorem p_val : Try.prog.readableRec 24 = true ∧ 24 < Try.prog.types.size := ⟨read_val, of_decide_eq_true (by kernel_rfl)⟩
theorem p_vals : Try.prog.readableRec 22 = true ∧ 22 < Try.prog.types.size := ⟨read_vals, of_decide_eq_true (by kernel_rfl)⟩
theorem p_bytes : Try.prog.readableRec 27 = true ∧ 27 < Try.prog.types.size := ⟨read_bytes, of_decide_eq_true (by kernel_rfl)⟩

section
variable {H : Type} {enc : TypeId × Value → H}

theorem trodAll_behind {W W' : World} (hb : Below W.heap.size W W') : ∀ (ts : List TypeId) (vs : List Value) (ds : List (DataW H)) (ps : List MemPlace), (∀ t ∈ ts, Try.prog.readableRec t = true ∧ t < Try.prog.types.size) →
    DataW.TrodAll enc Try.prog W 0 (fun _ => true) true ts vs ds ps → DataW.TrodAll enc Try.prog W' 0 (fun b => decide (b < W.heap.size)) true ts vs ds ps
  | [], [], [], _, _, h => h
  | t :: ts, v :: vs, d :: ds, _, ht, ⟨p, q, h1, h2, e⟩ =>
    ⟨p, q, Below.trod prog_laid (ht t (List.mem_cons_self ..)).1 (ht t (List.mem_cons_self ..)).2 h1 hb (by obtain ⟨n, hn⟩ := h1; exact (DataW.TrodAll.lt (ts := [t]) (vs := [v]) (ds := [d]) ⟨p, [], ⟨n, hn⟩, rfl, by simp⟩)),
      trodAll_behind hb ts vs ds q (fun t h => ht t (List.mem_cons_of_mem _ h)) h2, e⟩

/-- the law's last step: it answered true, and of what was there nothing has turned -/
theorem law_post {f : Func} {s : ChangeSpec} {W W' : World} {args : Array Value} {ds gs : List (DataW H)} {before : List MemPlace} (hv : s.vars = [])
    (hs : ∀ ds : List (DataW H), ds.length = f.params.size → s.fn H ds = { results := [.lit (.bool true)], args := ds }) (hrt : f.resultTypes = #[4]) (hp : ∀ t ∈ f.params.toList, Try.prog.readableRec t = true ∧ t < Try.prog.types.size) (hl : ds.length = f.params.size)
    (hW : DataW.Whole enc Try.prog f.params.toList s.vars false W args.toList ds gs before) (hb : Below W.heap.size W W') :
    s.post enc Try.prog f false true false false W args (.bool true) W' := by
  have hW' := hW
  obtain ⟨p, q, hA, hV, rfl, hz, hn⟩ := hW
  rw [hv] at hV
  obtain ⟨rfl, rfl⟩ := trodVars_none hV
  have hfn := hs (ds ++ []) (by simpa using hl)
  refine ⟨ds, [], p ++ [], [], p, [], hW', ?_, ?_, ?_, hb.frame _, fun h => by cases h⟩
  · rw [hrt, hfn]
    exact trodAll_mk1 (shut_bool Try.underlying4 true)
  · rw [hfn, List.append_nil]
    exact trodAll_behind hb _ _ _ _ hp hA
  · rw [hv, hfn]
    rfl
end

theorem cstep_ge (g n : Nat) (u : V) : n ≤ cstep g n u := by
  unfold cstep
  split <;> omega
theorem fold_ge (g : Nat) (l : List V) : ∀ n, n ≤ l.foldl (cstep g) n := by
  induction l with
  | nil => intro n; exact Nat.le_refl _
  | cons u l ih => intro n; exact Nat.le_trans (cstep_ge g n u) (ih _)
theorem fold_sum (g : Nat) (l : List V) : ∀ n, l.foldl (cstep g) n ≤ 200 → l.foldl (cstep g) n = n + (l.map (cnt g)).sum := by
  induction l with
  | nil => intro n _; simp
  | cons u l ih =>
    intro n h
    rw [List.foldl_cons] at h ⊢
    have h1 := fold_ge g l (cstep g n u)
    have h2 := cstep_ge g n u
    have e : cstep g n u = n + cnt g u := by unfold cstep; rw [if_pos (by omega)]
    rw [ih _ h, e]
    simp; omega

/-- a value with few parts is not deep, and its encoding not long -/
theorem cnt_bd : ∀ (g : Nat) (v : V), cnt g v ≤ 200 → v.depth ≤ g ∧ v.enc.length ≤ 300 * cnt g v := by
  intro g
  induction g with
  | zero => intro v h; simp [cnt] at h
  | succ g ih =>
    intro v h
    by_cases hb : 150 < v.l.len
    · rw [cnt, if_pos hb] at h; omega
    · rw [cnt_succ g v hb] at h ⊢
      have hs := fold_sum g _ _ h
      rw [hs] at h ⊢
      have hu : ∀ u ∈ v.l.toList, cnt g u ≤ 200 := by
        intro u hu
        have : cnt g u ≤ (v.l.toList.map (cnt g)).sum := by
          have hm : cnt g u ∈ v.l.toList.map (cnt g) := List.mem_map_of_mem hu
          generalize v.l.toList.map (cnt g) = ns at hm
          induction ns with
          | nil => cases hm
          | cons a ns ih2 =>
            rw [List.sum_cons]
            rcases List.mem_cons.1 hm with rfl | hm
            · omega
            · have := ih2 hm; omega
        omega
      constructor
      · unfold V.depth d1
        split
        · rw [F.depth_eq]
          have : dmax v.l.toList ≤ g := by
            generalize hvs : v.l.toList = vs at hu
            clear hvs h hs
            induction vs with
            | nil => exact Nat.zero_le _
            | cons u vs ih2 =>
              have := (ih u (hu u (List.mem_cons_self ..))).1
              have := ih2 (fun x hx => hu x (List.mem_cons_of_mem _ hx))
              simp only [dmax]; omega
          omega
        · omega
      · have hk : v.l.enc.length ≤ 300 * (v.l.toList.map (cnt g)).sum := by
          rw [F.enc_eq]
          generalize hvs : v.l.toList = vs at hu
          clear hvs h hs
          induction vs with
          | nil => simp
          | cons u vs ih2 =>
            have := (ih u (hu u (List.mem_cons_self ..))).2
            have := ih2 (fun x hx => hu x (List.mem_cons_of_mem _ hx))
            rw [List.flatMap_cons, List.length_append, List.map_cons, List.sum_cons]
            omega
        have n1 := numf_len 10 (uns v.n).toNat
        have n2 := numf_len 10 v.s.size
        have n3 := numf_len 10 v.l.len
        have e2 : v.s.data.toList.length = v.s.size := by simp
        unfold V.enc enc1
        split
        · rw [List.length_cons]; omega
        · split
          · rw [List.length_cons, List.length_append, e2]; omega
          · rw [List.length_cons, List.length_append]; omega
theorem few_bd {v : V} (h : cnt 21 v ≤ 200) : v.depth ≤ 21 ∧ v.enc.length ≤ 60000 := by
  have := cnt_bd 21 v h
  omega
theorem allFew_mem {l : List V} (h : allFew l = true) {v : V} (hv : v ∈ l) : v.depth ≤ 21 ∧ v.enc.length ≤ 60000 := by
  unfold allFew at h
  rw [List.all_eq_true] at h
  have := h v hv
  exact few_bd (by simpa using this)
end Go.Proofs.Ytomiacedailmaaa
