/- Stage 18: PermTells. -/
import Derived.Test.YtdeghjhlbhpopaaPqf
import Derived.Test.YtdeghjhlbhpopaaPqd
namespace Go.Proofs.Ytdeghjhlbhpopaa
set_option maxRecDepth 100000
open Go.RowKit Go.Shelf
/-- What the law's loop has noted ahead of j: the slot at i; where s is. -/
noncomputable def atJ (L : List Nat) (i : Int) (j : Nat) : Int := if 0 ≤ i ∧ i.toNat % L.length < j then ((L[i.toNat % L.length]?.getD 0 : Nat) : Int) else -1
def whJ (L : List Nat) (s : Int) : Nat → Int
  | 0 => -1
  | j + 1 => if ((L[j]?.getD 0 : Nat) : Int) = s then (j : Int) else whJ L s j
theorem atJ_zero (L : List Nat) (i : Int) : atJ L i 0 = -1 := if_neg fun h => absurd h.2 (Nat.not_lt_zero _)
theorem atJ_hit {L : List Nat} {I j : Nat} (h : I % L.length = j) : atJ L (I : Int) (j + 1) = ((L[j]?.getD 0 : Nat) : Int) := by
  unfold atJ
  rw [Int.toNat_natCast, h, if_pos ⟨by omega, by omega⟩]
theorem atJ_miss {L : List Nat} {I j : Nat} (h : I % L.length ≠ j) : atJ L (I : Int) (j + 1) = atJ L (I : Int) j := by
  unfold atJ
  rw [Int.toNat_natCast]
  by_cases q : I % L.length < j
  · rw [if_pos ⟨by omega, by omega⟩, if_pos ⟨by omega, by omega⟩]
  · rw [if_neg (by omega), if_neg (by omega)]
theorem atJ_neg {L : List Nat} {i : Int} (h : i < 0) (j : Nat) : atJ L i j = -1 := if_neg fun q => by omega
theorem whJ_no {L : List Nat} {s : Int} : ∀ {j : Nat}, (∀ x, x < j → ((L[x]?.getD 0 : Nat) : Int) ≠ s) → whJ L s j = -1
  | 0, _ => rfl
  | j + 1, h => by
    unfold whJ
    rw [if_neg (h j (by omega))]
    exact whJ_no fun x hx => h x (by omega)
theorem whJ_yes {L : List Nat} {s : Int} {x : Nat} (hx : ((L[x]?.getD 0 : Nat) : Int) = s) : ∀ {j : Nat}, x < j → (∀ y, y < j → ((L[y]?.getD 0 : Nat) : Int) = s → y = x) → whJ L s j = (x : Int)
  | 0, h, _ => absurd h (Nat.not_lt_zero _)
  | j + 1, h, hu => by
    unfold whJ
    by_cases q : ((L[j]?.getD 0 : Nat) : Int) = s
    · rw [if_pos q, hu j (by omega) q]
    · rw [if_neg q]
      refine whJ_yes hx ?_ fun y hy => hu y (by omega)
      rcases (show x < j ∨ x = j by omega) with r | rfl
      · exact r
      · exact absurd hx q
theorem Pe.list_no {p : Pe} (h : p.may = false) : p.list = [] := by
  unfold Pe.list
  rw [if_neg (by rw [h]; exact Bool.false_ne_true)]
theorem Pe.Ok.get {p : Pe} {o k m : Nat} (h : p.Ok o k m) {x : Nat} (hx : x < m) : p.list[x]?.getD 0 = slN o k m x := by
  rw [h.list_, slL_at hx]
  rfl
theorem atJ_end (p : Pe) (i : Int) : atJ p.list i p.list.length = p.atV i := by
  rcases Bool.eq_false_or_eq_true p.may with h | h
  · obtain ⟨o, k, m, ok⟩ := Pe.ok_of h
    have hz := szP_le ok.sz
    have hl : p.list.length = m := by rw [ok.list_, slL_len]
    unfold atJ Pe.atV
    by_cases q : 0 ≤ i
    · have hm := Nat.mod_lt i.toNat (show 0 < m by omega)
      rw [hl, if_pos ⟨q, hm⟩, if_pos ⟨h, q⟩, ok.get hm, slN_mod, ok.eo, ok.ek, ok.em]
      rfl
    · rw [if_neg fun r => q r.1, if_neg fun r => q r.2]
  · unfold atJ Pe.atV
    rw [if_neg (by rw [Pe.list_no h]; exact fun r => absurd r.2 (Nat.not_lt_zero _)), if_neg (by rw [h]; exact fun r => Bool.false_ne_true r.1)]
theorem whJ_end (p : Pe) (s : Int) : whJ p.list s p.list.length = p.whV s := by
  rcases Bool.eq_false_or_eq_true p.may with h | h
  · obtain ⟨o, k, m, ok⟩ := Pe.ok_of h
    have hz := szP_le ok.sz
    have hl : p.list.length = m := by rw [ok.list_, slL_len]
    by_cases q : ∃ x, x < m ∧ (slN o k m x : Int) = s
    · obtain ⟨x, hx, rfl⟩ := q
      rw [hl, ok.wh hx]
      refine whJ_yes (by rw [ok.get hx]) hx fun y hy e => ?_
      rw [ok.get hy] at e
      have e2 : slN o k m y = slN o k m x := by omega
      exact slN_inj (by omega) hz.2.2 ok.pk ok.lk hy hx e2
    · rw [hl, whJ_no fun x hx e => q ⟨x, hx, by rw [← e, ok.get hx]⟩, Pe.wh_no]
      rintro x ⟨_, h2, h3⟩
      rw [ok.em] at h2
      rw [ok.eo, ok.ek, ok.em] at h3
      exact q ⟨x, by omega, h3⟩
  · rw [Pe.list_no h, Pe.wh_no fun x r => Bool.false_ne_true (h.symm.trans r.1)]
    rfl
/-- The document's slots: the list, whatever came in. -/
theorem rslots_list (p : Pe) (w : World) : Calls Try.prog 10 #[.agg #[.int .i64 p.o, .int .i64 p.k, .int .i64 p.m]] w fun e w' => ∃ A c, e = .returned (.slice A p.list.length c) ∧ OwnC w' w.heap.size 3 1 A p.list.length c (nQ p.list) ∧ Below w.heap.size w w' := by
  rcases Bool.eq_false_or_eq_true p.may with h | h
  · obtain ⟨o, k, m, ok⟩ := Pe.ok_of h
    have hl : p.list.length = m := by rw [ok.list_, slL_len]
    rw [ok.eo, ok.ek, ok.em]
    refine (rslots_yes ok w).mono ?_
    rintro e w' ⟨g, rfl, ho, hb⟩
    refine ⟨some ⟨g, 0, none⟩, m, by rw [hl], ?_, hb⟩
    rw [hl]
    refine ho.same fun x hx => ?_
    show nQ p.list x = sf o k m x
    unfold nQ sf
    rw [ok.get (by omega)]
  · refine (rslots_no h w).mono ?_
    rintro e w' ⟨rfl, hb⟩
    have hl : p.list = [] := Pe.list_no h
    rw [hl]
    exact ⟨none, 0, rfl, OwnC.nil_ _ _ _ _ _, hb⟩
theorem list_le (p : Pe) : p.list.length ≤ 65537 ∧ ((p.list.length : Int) ≤ p.m ∨ p.list.length = 0) := by
  rcases Bool.eq_false_or_eq_true p.may with h | h
  · obtain ⟨o, k, m, ok⟩ := Pe.ok_of h
    have hz := szP_le ok.sz
    have hl : p.list.length = m := by rw [ok.list_, slL_len]
    rw [hl, ok.em]
    exact ⟨by omega, .inl (by omega)⟩
  · rw [Pe.list_no h]
    exact ⟨by decide, .inr rfl⟩
end Go.Proofs.Ytdeghjhlbhpopaa
