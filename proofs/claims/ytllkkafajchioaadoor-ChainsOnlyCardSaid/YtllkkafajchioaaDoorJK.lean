/- Digest: an argument that is a digest. -/
import Derived.Test.YtllkkafajchioaaDoorXO
import Derived.WideKeyArr2
namespace Go.Proofs.YtllkkafajchioaaDoor
open Go.ChangeShapes Go.WideShapes Go.ChangeAt Go.WideElems Go.RowKit

theorem mapM_all {α β : Type} (f : α → Option β) : ∀ (L : List α) (ys : List β), L.mapM f = some ys → ∀ i ∈ L, ∃ y, f i = some y
  | [], _, _, _, h => by cases h
  | a :: L, ys, h, i, hi => by
    rw [List.mapM_cons] at h
    simp only [bind, Option.bind_eq_some_iff, pure, Option.some.injEq] at h
    obtain ⟨y, hy, zs, hzs, _⟩ := h
    rcases List.mem_cons.1 hi with rfl | hi
    · exact ⟨y, hy⟩
    · exact mapM_all f L zs hzs i hi
theorem as_bytes : ∀ vs : List Value, (∀ v ∈ vs, ∃ x : UInt8, v = .int .u8 x.toNat) → ∃ l : List UInt8, vs = U l
  | [], _ => ⟨[], rfl⟩
  | v :: vs, h => by
    obtain ⟨x, rfl⟩ := h v (List.mem_cons_self ..)
    obtain ⟨l, rfl⟩ := as_bytes vs fun v hv => h v (List.mem_cons_of_mem _ hv)
    exact ⟨x :: l, rfl⟩
theorem arg_digest {H : Type} {enc : TypeId × Value → H} {W : World} {r : Reach} {b0 : Nat} {v : Value} {d : DataW H} {ps : List MemPlace} (hval : Value.okWide Tryd.prog W r b0 23 v) (hd : DataW.Trod enc Tryd.prog W 0 (fun _ => true) true 23 v d ps) :
    ∃ l : List UInt8, l.length = 32 ∧ v = .agg (U l).toArray := by
  have AK : WideMaps.ArrKey Tryd.prog 23 5 32 := ⟨Tryd.underlying23, by kernel_rfl, by kernel_rfl, by kernel_rfl⟩
  obtain ⟨xs, rfl, hn⟩ := WideMaps.okWide_arr AK hval
  obtain ⟨fuel, hf⟩ := hd
  cases fuel with
  | zero => simp [DataW.trod] at hf
  | succ m =>
    rw [DataW.trod_step] at hf
    unfold DataW.trodStep at hf
    simp only [AK.hu, Value.cells] at hf
    rw [if_pos (by rw [AK.size]; simpa using hn)] at hf
    simp only [Option.map_eq_some_iff] at hf
    obtain ⟨ys, hy, _⟩ := hf
    rw [AK.one] at hy
    obtain ⟨l, hl⟩ := as_bytes xs.toList fun v hv => by
      obtain ⟨i, hi, e⟩ := List.getElem_of_mem hv
      obtain ⟨y, hyi⟩ := mapM_all _ _ _ hy i (List.mem_range.2 (by simpa [hn] using hi))
      obtain ⟨a, ea, _, wa⟩ := DataW.trod_int Tryd.underlying5 hyi
      have ba := bounds_u8 wa
      have h1 : ((xs.toList.drop (i * 1)).take 1) = [v] := by
        rw [Nat.mul_one, List.drop_eq_getElem_cons hi, e]
        rfl
      rw [h1] at ea
      injection ea with ea _
      refine ⟨UInt8.ofNat a.toNat, ?_⟩
      have e2 : ((UInt8.ofNat a.toNat).toNat : Int) = a := by simp; omega
      rw [e2, ea]
    have hxs : xs = (U l).toArray := by rw [← hl]
    refine ⟨l, ?_, by rw [hxs]⟩
    have := congrArg Array.size hxs
    simpa [U, hn] using this.symm
end Go.Proofs.YtllkkafajchioaaDoor
