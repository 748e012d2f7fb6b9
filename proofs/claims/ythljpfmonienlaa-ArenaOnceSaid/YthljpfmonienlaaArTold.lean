/- Stage 9's pure words: what is live in an arena, by cells: each taken cell's handle, from the first cell on; they are as many as are taken; what is told is live, and all that is live is told. -/
import Derived.Test.YthljpfmonienlaaArSpec
namespace Go.Proofs.Ythljpfmonienlaa
namespace Ar

/-- The handles of the taken cells among the first n. -/
def told (s : Ar) (n : Nat) : List (Nat × Nat) := ((List.range n).filter (fun i => s.at_ i != 0)).map (fun i => (i, s.at_ i))

theorem told_zero (s : Ar) : s.told 0 = [] := rfl

theorem told_succ (s : Ar) (n : Nat) : s.told (n + 1) = if s.at_ n != 0 then s.told n ++ [(n, s.at_ n)] else s.told n := by
  unfold told
  rw [List.range_succ, List.filter_append, List.map_append]
  by_cases h : s.at_ n = 0
  · simp [h]
  · simp [h]

theorem told_length (s : Ar) : (s.told s.has.length).length = s.count := by
  unfold told count
  rw [List.length_map, ← List.countP_eq_length_filter]
  have h : s.has = (List.range s.has.length).map s.at_ := by
    apply List.ext_getElem
    · simp
    · intro i h1 h2
      simp [at_, List.getElem?_eq_getElem h1]
  have h2 : s.has.countP (fun x => x != 0) = ((List.range s.has.length).map s.at_).countP (fun x => x != 0) := congrArg _ h
  rw [h2, List.countP_map]
  rfl

theorem told_live {s : Ar} {n : Nat} {x : Nat × Nat} (h : x ∈ s.told n) : x.1 < n ∧ x.2 = s.at_ x.1 ∧ s.live (x.1 : Int) x.2 = true := by
  unfold told at h
  obtain ⟨i, hi, rfl⟩ := List.mem_map.mp h
  rw [List.mem_filter, List.mem_range] at hi
  have h2 : s.at_ i ≠ 0 := by simpa using hi.2
  refine ⟨hi.1, rfl, live_iff.mpr ⟨by simp, h2, by simp⟩⟩

theorem live_told {s : Ar} {i k : Nat} (h : s.live (i : Int) k = true) : (i, k) ∈ s.told s.has.length := by
  obtain ⟨_, h0, hk⟩ := live_iff.mp h
  rw [Int.toNat_natCast] at hk
  have hi : i < s.has.length := Nat.lt_of_not_le fun hle => h0 (by rw [← hk]; exact at_out hle)
  unfold told
  refine List.mem_map.mpr ⟨i, ?_, by rw [hk]⟩
  rw [List.mem_filter, List.mem_range]
  exact ⟨hi, by rw [hk]; simp [h0]⟩

/-- A full arena: each cell's handle is told. -/
theorem told_full {s : Ar} (h : s.which = none) : (s.told s.has.length).length = s.has.length := by
  rw [told_length, count_full h]
end Ar
end Go.Proofs.Ythljpfmonienlaa
