/- Stage 19: a list turned round; what is too great. -/
import Derived.Test.YtfchmmojhfjibaaMgi
import Derived.Shelf.SlGeneric
import Derived.Shelf.SlicesQ.Reverse
import Derived.Ground.SlgnProg
namespace Go.Proofs.Ytfchmmojhfjibaa
set_option maxRecDepth 100000
open Go.RowKit Go.Shelf
shelf_lay_g SlLaysE0.n35 Slgn 35 at Try 18 as Try.revW
instance : Inhabited Wt := ⟨⟨⟨#[]⟩, 0⟩⟩
def encW (b : Wt) : List Value := [.string b.s, .int .i64 b.w]
theorem wa_arr (l : List Wt) {i : Nat} (h : i < l.length) : l.toArray[i]! = wa l i := by
  rw [getElem!_pos l.toArray i (by simpa using h), wa_at h]
  simp
theorem flat_wf (l : List Wt) {j : Nat} (h : j < l.length * 2) : (Go.Sort.flatK encW 2 l.toArray)[j]! = wf l j := by
  rw [Go.Sort.get_flatK _ _ _ _ (by simpa using h), wa_arr l (show j / 2 < l.length by omega)]
  unfold wf encW
  rcases (show j % 2 = 0 ∨ j % 2 = 1 by omega) with e | e
  · rw [e, if_pos rfl]
    rfl
  · rw [e, if_neg (by decide)]
    rfl
theorem rev_any (l : List Wt) (base g c : Nat) (w : World) (h : OwnC w base 34 2 (some ⟨g, 0, none⟩) l.length c (wf l)) (hn : 0 < l.length) (hn9 : l.length ≤ 100000) : Calls Try.prog 18 #[.slice (some ⟨g, 0, none⟩) l.length c] w fun e w' => e = .returned (.tuple #[]) ∧ RdC w' w'.heap.size (some ⟨g, 0, none⟩) (l.reverse.length * 2) (wf l.reverse) ∧ Below base w w' := by
  obtain ⟨g', e, hb, hl, hc, hf⟩ := h.lies hn
  injection e with e
  injection e with e
  subst e
  have hH : Go.Sort.HoldsK encW 2 w g 0 l.toArray := fun j hj => by
    have hj' : j < l.length * 2 := by simpa using hj
    refine ⟨?_, by have := hf j; rw [Nat.zero_add]; exact this⟩
    rw [Nat.zero_add, hc j hj', flat_wf l hj']
    rfl
  have q := AnyQ.slices_Reverse Try.revW 2 Try.isAgg34 Try.sizeOf34 encW (fun _ => rfl) (fun x v hv => by simp [encW] at hv; rcases hv with rfl | rfl <;> rfl) g 0 c l.toArray w hH (by simp; omega)
  rw [List.size_toArray] at q
  refine Calls.mono q ?_
  rintro e w' ⟨rfl, n, rfl⟩
  refine ⟨rfl, .inr ⟨g, 0, rfl, ?_, fun k hk => ?_⟩, ⟨rfl, rfl, rfl, ?_, fun k hk => ?_⟩⟩
  · unfold Go.Sort.putRowK
    rw [Go.Sort.size_putRow]
    exact hl
  · have h2 := Go.Sort.holdsK_putRowK encW 2 (Go.Sort.ahead w n) g 0 l.toArray l.toArray.reverse (Go.Sort.holdsK_ahead encW 2 w n g 0 _ hH) (by simp)
    have h3 := (h2 k (by simp at hk ⊢; exact hk)).1
    rw [List.reverse_toArray, flat_wf l.reverse hk] at h3
    rw [List.reverse_toArray]
    exact h3
  · unfold Go.Sort.putRowK
    rw [Go.Sort.size_putRow]
    exact Nat.le_refl _
  · unfold Go.Sort.putRowK Go.Sort.putRow Go.Sort.mapBlock
    simp only [Array.getElem?_modify]
    rw [if_neg (by omega)]
    rfl
/-- More than is looked at. -/
noncomputable def grW (l : List Wt) (m : Int) : Bool := @decide (bigW l m) (Classical.propDecidable _)
theorem grW_iff {l : List Wt} {m : Int} : grW l m = true ↔ bigW l m := by
  classical
  unfold grW
  exact decide_eq_true_iff
/-- A list that came in. -/
structure Lin (w : World) (A : Option Addr) (c : Nat) (l : List Wt) : Prop where
  cap : l.length ≤ c
  top : c ≤ 9223372036854775807
  rd : RdC w w.heap.size A (l.length * 2) (wf l)
set_option maxHeartbeats 1000000 in
theorem great_any (l : List Wt) (A : Option Addr) (c : Nat) (m : Int) (w : World) (h : Lin w A c l) : Calls Try.prog 6 #[.slice A l.length c, .int .i64 m] w (ret (.bool (grW l m)) w) := by
  have HL := Lib.hid h
  have hcc := h.cap
  have htt := h.top
  obtain ⟨R, hR⟩ : ∃ R, R = grW l m := ⟨_, rfl⟩
  have HT : Hid (bigW l m → R = true) := Lib.hid fun q => by rw [hR]; exact grW_iff.2 q
  have HF : Hid (¬ bigW l m → R = false) := Lib.hid fun q => by
    rw [hR, ← Bool.not_eq_true, grW_iff]
    exact q
  rw [← hR]
  obtain ⟨n, hn⟩ : ∃ n, n = l.length := ⟨_, rfl⟩
  rw [← hn] at hcc ⊢
  have HNN := Lib.hid hn
  clear hn h hR
  go_enter Try.func6, Try.ntmps6
  go_wp2_with fail
  go_loopw [9] (fun vi wr => ∃ i : Nat, i ≤ n ∧ vi = .int .i64 (i : Int) ∧ (∀ x, x < i → (wa l x).s.size ≤ 40) ∧ Below w.heap.size w wr) (fun vi _ => n - (intOf vi).toNat)
  case atStart => exact ⟨0, Nat.zero_le _, rfl, fun x hx => by omega, Below.refl _ _⟩
  case round =>
    obtain ⟨i, hi, rfl, h1, hb⟩ := hrel
    have HB := Lib.hid hb
    have H1 := Lib.hid h1
    clear h1
    by_cases hlt : i < n
    · have l1 : (i : Int) < (n : Int) := by omega
      have i0 : (0 : Int) ≤ (i : Int) := by omega
      have i2 : ((i : Int)).toNat = i := by omega
      have zi : IntKind.i64.wrap ((i : Int) + 1) = (i : Int) + 1 := by rw [IntKind.wrap_i64]; omega
      have hil : i < l.length := by rw [← HNN.out]; exact hlt
      rcases HL.out.rd with h0 | ⟨a, ao, e, ha, hca⟩
      · omega
      subst e
      have xa := (hb.cell (p := ⟨a, ao + i * 2, none⟩) ha).trans ((hca (i * 2) (by omega)).trans (by rw [wf_s]))
      have ya := (hb.cell (p := ⟨a, ao + i * 2 + 1, none⟩) ha).trans ((by rw [Nat.add_assoc]; exact hca (i * 2 + 1) (by omega) : w.cell? ⟨a, ao + i * 2 + 1, none⟩ = some (wf l (i * 2 + 1))).trans (by rw [wf_w]))
      have HBI : Hid (40 < (wa l i).s.size → R = true) := Lib.hid fun q => HT.out (.inl ⟨i, hil, q⟩)
      have H1I : Hid ((wa l i).s.size ≤ 40 → ∀ x, x < i + 1 → (wa l x).s.size ≤ 40) := Lib.hid fun q x hx => by
        rcases (show x < i ∨ x = i by omega) with p | rfl
        · exact H1.out x p
        · exact q
      obtain ⟨S, hS⟩ : ∃ S, S = (wa l i).s := ⟨_, rfl⟩
      obtain ⟨V, hV⟩ : ∃ V, V = (wa l i).w := ⟨_, rfl⟩
      rw [← hS] at xa HBI H1I
      rw [← hV] at ya
      have HM : Hid ((wr.alloc (.cells #[.string S, .int .i64 V] 34)).heap[wr.heap.size]? = some (.cells #[.string S, .int .i64 V] 34 (0, 0))) := Lib.hid (heap_alloc_new wr _)
      have HBA : Hid (Below w.heap.size w (wr.alloc (.cells #[.string S, .int .i64 V] 34))) := Lib.hid (HB.out.alloc HB.out.size _)
      clear hca ha hb hS hV hil
      go_upto_region 4 with fail
      change Code.wp _ _ _ _ (wr.alloc (.cells #[.string S, .int .i64 V] 34))
      obtain ⟨r, hr⟩ : ∃ r, r = wr.heap.size := ⟨_, rfl⟩
      rw [← hr] at HM ⊢
      clear hr xa ya
      generalize wr.alloc (.cells #[.string S, .int .i64 V] 34) = u1 at *
      have x0 := blk_cell HM.out 0
      by_cases hs : 40 < S.size
      · have d1 : (40 : Int) < (S.size : Int) := by omega
        have HR := Lib.hid (HBI.out hs)
        clear hs
        go_wp2_with fail
        go_ret
        exact ⟨by (rw [HR.out] <;> rfl), HBA.out⟩
      · have d1 : ¬ (40 : Int) < (S.size : Int) := by omega
        have HR := Lib.hid (H1I.out (by omega))
        clear hs
        go_wp2_with fail
        go_roundw
        case rel => exact ⟨i + 1, by omega, by go_num, HR.out, HBA.out⟩
        case measure => simp [intOf]; omega
    · obtain rfl : n = i := by omega
      clear hb
      by_cases h30 : 30 < n
      · have d1 : (30 : Int) < (n : Int) := by omega
        have HR := Lib.hid (HT.out (.inr (.inl (by rw [← HNN.out]; exact h30))))
        clear h30
        go_wp2_with fail
        go_ret
        exact ⟨by (rw [HR.out] <;> rfl), HB.out⟩
      · have d1 : ¬ (30 : Int) < (n : Int) := by omega
        by_cases h6 : 600 < m
        · have HR := Lib.hid (HT.out (.inr (.inr h6)))
          clear h30
          go_wp2_with fail
          go_ret
          exact ⟨by (rw [HR.out] <;> rfl), HB.out⟩
        · have HR := Lib.hid (HF.out fun q => by
            have h1 := H1.out
            rw [HNN.out] at h30 h1
            rcases q with ⟨x, hx, q⟩ | q | q
            · have := h1 x hx; omega
            · omega
            · omega)
          clear h30
          go_wp2_with fail
          go_ret
          exact ⟨by (rw [HR.out] <;> rfl), HB.out⟩
end Go.Proofs.Ytfchmmojhfjibaa
