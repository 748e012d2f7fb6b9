/- Stage 19: the table of a list; what follows. -/
import Derived.Test.YtfchmmojhfjibaaMgb
import Derived.Test.YtfchmmojhfjibaaStf
namespace Go.Proofs.Ytfchmmojhfjibaa
set_option maxRecDepth 100000
open Go.RowKit Go.Shelf
def wsL (l : List Wt) (o : List Nat) : List Nat := o.map fun x => (wa l x).w.toNat
def oa (o : List Nat) (k : Nat) : Nat := o[k]?.getD 0
def qB (m : Nat) (s : ByteArray) : Nat × Nat := (peO s.size (strF s) m, peK s.size (strF s) m)
def qL (l : List Wt) (o : List Nat) (m k : Nat) : Nat × Nat := qB m (wa l (oa o k)).s
def liftO (o : List Nat) (v : Int) : Int := if v < 0 then -1 else (oa o v.toNat : Int)
/-- The table behind i takes. -/
def tabN (l : List Wt) (m i : Nat) (s : Nat) : Int := liftO (ordL l) (tkT (qL l (ordL l) m) m (whoN (wsL l (ordL l))) i s)
def tabV (l : List Wt) (m : Nat) (s : Nat) : Int := tabN l m (if ordL l = [] then 0 else m) s
theorem oa_at {o : List Nat} {k : Nat} (h : k < o.length) : oa o k = o[k] := by
  unfold oa
  rw [List.getElem?_eq_getElem h]
  rfl
theorem oa_mem {o : List Nat} {k : Nat} (h : k < o.length) : oa o k ∈ o := by
  rw [oa_at h]
  exact List.getElem_mem h
theorem qB_ok {m : Nat} (hm : 2 ≤ m) (hp : ld m = m) (s : ByteArray) : 0 < (qB m s).2 ∧ (qB m s).2 < m := by
  unfold qB peK
  have := Nat.mod_lt (seedN 2 (nb (strF s)) s.size) (show 0 < m - 1 by omega)
  exact ⟨by show 0 < 1 + _; omega, by show 1 + _ < m; omega⟩
theorem qL_ok {l : List Wt} {m : Nat} (h : szP (m : Int) = true) (o : List Nat) : PqOk (qL l o m) m :=
  ⟨by have := szP_le h; omega, (szP_le h).2.2, fun x => qB_ok (by have := szP_le h; omega) (szP_le h).2.2 _⟩
theorem wsL_len (l : List Wt) (o : List Nat) : (wsL l o).length = o.length := by
  unfold wsL
  rw [List.length_map]
theorem wsL_at (l : List Wt) {o : List Nat} {k : Nat} (h : k < o.length) : (wsL l o)[k]?.getD 0 = (wa l (oa o k)).w.toNat := by
  unfold wsL
  rw [List.getElem?_map, List.getElem?_eq_getElem h, oa_at h]
  rfl
theorem sum_pos : ∀ {ws : List Nat}, ws ≠ [] → (∀ w, w ∈ ws → 0 < w) → 0 < ws.sum
  | [], h, _ => absurd rfl h
  | w :: ws, _, h => by
    have := h w (.head _)
    rw [List.sum_cons]
    omega
theorem wsL_pos {l : List Wt} (h : ordL l ≠ []) : 0 < (wsL l (ordL l)).sum := by
  refine sum_pos (fun e => h (List.map_eq_nil_iff.1 e)) fun w hw => ?_
  unfold wsL at hw
  obtain ⟨x, hx, rfl⟩ := List.mem_map.1 hw
  have := ((ordL_srt l).mem x).1 hx
  omega
theorem ordL_lt {l : List Wt} {k : Nat} (h : k < (ordL l).length) : oa (ordL l) k < l.length ∧ 0 < (wa l (oa (ordL l) k)).w := ((ordL_srt l).mem _).1 (oa_mem h)
theorem ordL_pos {l : List Wt} {x : Nat} (h : x < l.length) (hw : 0 < (wa l x).w) : ∃ k, k < (ordL l).length ∧ oa (ordL l) k = x := by
  obtain ⟨k, hk, e⟩ := List.getElem_of_mem (((ordL_srt l).mem x).2 ⟨h, hw⟩)
  exact ⟨k, hk, by rw [oa_at hk, e]⟩
theorem ordL_inj {l : List Wt} {i j : Nat} (hi : i < (ordL l).length) (hj : j < (ordL l).length) (h : oa (ordL l) i = oa (ordL l) j) : i = j := by
  rw [oa_at hi, oa_at hj] at h
  have hn := List.pairwise_iff_getElem.1 (ordL_srt l).nodup
  rcases Nat.lt_trichotomy i j with q | q | q
  · exact absurd h (hn i j hi hj q)
  · exact q
  · exact absurd h.symm (hn j i hj hi q)
theorem ordL_nil {l : List Wt} : ordL l = [] ↔ ∀ x, x < l.length → ¬ 0 < (wa l x).w := by
  constructor
  · intro h x hx hw
    obtain ⟨k, hk, _⟩ := ordL_pos hx hw
    rw [h] at hk
    simp at hk
  · intro h
    rcases hq : ordL l with _ | ⟨a, x⟩
    · rfl
    · have := ((ordL_srt l).mem a).1 (by rw [hq]; exact .head _)
      exact absurd this.2 (h a this.1)
theorem tabV_nil {l : List Wt} {m : Nat} (h : ordL l = []) (s : Nat) : tabV l m s = -1 := by
  unfold tabV tabN
  rw [if_pos h]
  rfl
theorem liftO_pos (o : List Nat) (k : Nat) : liftO o (k : Int) = (oa o k : Int) := by
  unfold liftO
  rw [if_neg (by omega), Int.toNat_natCast]
theorem liftO_lt {o : List Nat} (v : Int) : liftO o v < 0 ↔ v < 0 := by
  unfold liftO
  by_cases h : v < 0
  · rw [if_pos h]; omega
  · rw [if_neg h]; omega
/-- Each slot has a backend that takes part, if some do. -/
theorem tabV_full {l : List Wt} {m : Nat} (hm : szP (m : Int) = true) (h : ordL l ≠ []) {s : Nat} (hs : s < m) : ∃ k, k < (ordL l).length ∧ tkT (qL l (ordL l) m) m (whoN (wsL l (ordL l))) m s = (k : Int) ∧ tabV l m s = (oa (ordL l) k : Int) := by
  obtain ⟨j, e⟩ := tk_full (qL_ok hm (ordL l)) (whoN (wsL l (ordL l))) hs
  have hk := whoN_lt (wsL_pos h) j
  rw [wsL_len] at hk
  refine ⟨_, hk, e, ?_⟩
  unfold tabV tabN
  rw [if_neg h, e, liftO_pos]
/-- How many slots one has. -/
theorem tab_cnt {l : List Wt} {m : Nat} (hm : szP (m : Int) = true) (h : ordL l ≠ []) {k : Nat} (hk : k < (ordL l).length) : cntI (tabV l m) (oa (ordL l) k : Int) m = cntC (whoN (wsL l (ordL l))) k m := by
  rw [← (tk_all (qL_ok (l := l) hm (ordL l)) (whoN (wsL l (ordL l))) m (Nat.le_refl _)).cnt k]
  refine cntI_same fun s hs => ?_
  obtain ⟨j, hj, e, e2⟩ := tabV_full hm h hs
  rw [e, e2]
  constructor
  · intro q
    have := ordL_inj hj hk (by omega)
    omega
  · intro q
    rw [show j = k by omega]
theorem tab_share {l : List Wt} {m : Nat} (hm : szP (m : Int) = true) {i k : Nat} (hi : i < l.length) (hk : k < l.length) (wi : 0 < (wa l i).w) (wk : 0 < (wa l k).w) :
    (cntI (tabV l m) (i : Int) m : Int) * (wa l k).w - (cntI (tabV l m) (k : Int) m : Int) * (wa l i).w ≤ (wa l i).w * (wa l k).w := by
  obtain ⟨a, ha, rfl⟩ := ordL_pos hi wi
  obtain ⟨b, hb, rfl⟩ := ordL_pos hk wk
  have h : ordL l ≠ [] := fun e => by rw [e] at ha; simp at ha
  rw [tab_cnt hm h ha, tab_cnt hm h hb]
  obtain ⟨r, hr, e⟩ := who_cnt (wsL_pos h) m a
  obtain ⟨r', hr', e'⟩ := who_cnt (wsL_pos h) m b
  rw [e, e']
  rw [wsL_at l ha] at hr ⊢
  rw [wsL_at l hb] at hr' ⊢
  obtain ⟨x, hx⟩ := Int.eq_ofNat_of_zero_le (Int.le_of_lt wi)
  obtain ⟨y, hy⟩ := Int.eq_ofNat_of_zero_le (Int.le_of_lt wk)
  rw [hx] at hr ⊢
  rw [hy] at hr' ⊢
  simp only [Int.toNat_natCast] at hr hr' ⊢
  obtain ⟨T, hT⟩ : ∃ T, T = m / (wsL l (ordL l)).sum := ⟨_, rfl⟩
  rw [← hT]
  have h1 : ((T * x + r : Nat) : Int) * (y : Int) = (T * x * y : Nat) + (r * y : Nat) := by
    rw [← Int.natCast_mul, Nat.add_mul, Int.natCast_add]
  have h2 : ((T * y + r' : Nat) : Int) * (x : Int) = (T * x * y : Nat) + (r' * x : Nat) := by
    rw [← Int.natCast_mul, Nat.add_mul, Int.natCast_add, Nat.mul_right_comm]
  have h3 : (x : Int) * (y : Int) = (x * y : Nat) := (Int.natCast_mul x y).symm
  have h4 : r * y ≤ x * y := Nat.mul_le_mul_right y hr
  rw [h1, h2, h3]
  omega
theorem tkT_same {q q' : Nat → Nat × Nat} {m : Nat} {c : Nat → Nat} (h : ∀ i, q (c i) = q' (c i)) : ∀ i, tkT q m c i = tkT q' m c i
  | 0 => rfl
  | i + 1 => by
    have ih := tkT_same (m := m) h i
    have e : tkS q m (c i) (tkT q m c i) = tkS q' m (c i) (tkT q' m c i) := by
      unfold tkS
      rw [ih, h i]
    funext s
    show (if s = tkS q m (c i) (tkT q m c i) then ((c i : Nat) : Int) else tkT q m c i s) = (if s = tkS q' m (c i) (tkT q' m c i) then ((c i : Nat) : Int) else tkT q' m c i s)
    rw [e, ih]
/-- Two lists with the same backends. -/
theorem ord_same {l k : List Wt} (hn : ∀ i j, i < l.length → j < i → (wa l j).s ≠ (wa l i).s) (hn' : ∀ i j, i < k.length → j < i → (wa k j).s ≠ (wa k i).s) (h : ∀ b, b ∈ l ↔ b ∈ k) : (ordL l).map (wa l) = (ordL k).map (wa k) := by
  have srt : ∀ {l : List Wt}, (∀ i j, i < l.length → j < i → (wa l j).s ≠ (wa l i).s) → ((ordL l).map (wa l)).Pairwise fun a b => ltB a.s b.s = true := fun {l} hn => by
    rw [List.pairwise_map]
    refine List.Pairwise.imp_of_mem (fun {a b} ha hb q => ?_) (ordL_srt l).ord
    rcases q with q | ⟨q, r⟩
    · exact q
    · exact absurd q (hn b a (((ordL_srt l).mem b).1 hb).1 r)
  have mem : ∀ {l : List Wt} (b : Wt), b ∈ (ordL l).map (wa l) ↔ b ∈ l ∧ 0 < b.w := fun {l} b => by
    rw [List.mem_map]
    constructor
    · rintro ⟨x, hx, rfl⟩
      have := ((ordL_srt l).mem x).1 hx
      exact ⟨wa_mem this.1, this.2⟩
    · rintro ⟨hb, hw⟩
      obtain ⟨i, hi, e⟩ := List.getElem_of_mem hb
      exact ⟨i, ((ordL_srt l).mem i).2 ⟨hi, by rw [wa_at hi, e]; exact hw⟩, by rw [wa_at hi, e]⟩
  exact sorted_one (R := fun a b => ltB a.s b.s = true) (fun i q => by rw [ltB_irrefl] at q; cases q) (fun a b c => ltB_trans) (srt hn) (srt hn') fun b => by rw [mem, mem, h]
theorem map_oa {l : List Wt} {o : List Nat} {k : Nat} (h : k < o.length) : (o.map (wa l))[k]? = some (wa l (oa o k)) := by
  rw [List.getElem?_map, List.getElem?_eq_getElem h, oa_at h]
  rfl
/-- .. each slot has the same name. -/
theorem tab_same {l k : List Wt} {m : Nat} (hm : szP (m : Int) = true) (h : (ordL l).map (wa l) = (ordL k).map (wa k)) {s : Nat} (hs : s < m) :
    (tabV l m s = -1 ∧ tabV k m s = -1) ∨ ∃ i j : Nat, tabV l m s = (i : Int) ∧ tabV k m s = (j : Int) ∧ i < l.length ∧ j < k.length ∧ (wa l i).s = (wa k j).s := by
  have hlen : (ordL l).length = (ordL k).length := by
    have := congrArg List.length h
    rwa [List.length_map, List.length_map] at this
  by_cases h0 : ordL l = []
  · have h1 : ordL k = [] := List.length_eq_zero_iff.1 (by rw [← hlen, h0]; rfl)
    exact .inl ⟨tabV_nil h0 s, tabV_nil h1 s⟩
  · have h1 : ordL k ≠ [] := fun e => h0 (List.length_eq_zero_iff.1 (by rw [hlen, e]; rfl))
    have hat : ∀ x, x < (ordL l).length → wa l (oa (ordL l) x) = wa k (oa (ordL k) x) := fun x hx => by
      have e1 := map_oa (l := l) hx
      rw [h, map_oa (l := k) (by omega)] at e1
      injection e1 with e1
      exact e1.symm
    have hws : wsL l (ordL l) = wsL k (ordL k) := by
      have := congrArg (List.map fun b : Wt => b.w.toNat) h
      rw [List.map_map, List.map_map] at this
      exact this
    have hq : ∀ i, whoN (wsL l (ordL l)) i < (ordL l).length := fun i => by
      have := whoN_lt (wsL_pos h0) i
      rwa [wsL_len] at this
    have ht : ∀ i, tkT (qL l (ordL l) m) m (whoN (wsL l (ordL l))) i = tkT (qL k (ordL k) m) m (whoN (wsL k (ordL k))) i := by
      rw [← hws]
      exact tkT_same fun i => by
        have e := hat _ (hq i)
        generalize whoN (wsL l (ordL l)) i = x at e
        unfold qL
        rw [e]
    obtain ⟨a, ha, e1, e2⟩ := tabV_full hm h0 hs
    obtain ⟨b, hb, e3, e4⟩ := tabV_full hm h1 hs
    rw [ht, e3] at e1
    obtain rfl : b = a := by omega
    exact .inr ⟨_, _, e2, e4, (ordL_lt ha).1, (ordL_lt hb).1, by rw [hat _ ha]⟩
end Go.Proofs.Ytfchmmojhfjibaa
