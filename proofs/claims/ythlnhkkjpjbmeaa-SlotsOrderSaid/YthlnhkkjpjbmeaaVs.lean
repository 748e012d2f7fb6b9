/- Stage 10's pure words: slots as the document defines them (of each list its cells), what push, pop and remove do to them, and what always holds; rings of links. -/
import Derived.Test.YthlnhkkjpjbmeaaLaw
namespace Go.Proofs.Ythlnhkkjpjbmeaa

structure Sl where
  ls : List (List Nat)
  cells : Nat

namespace Sl
def new (n c : Nat) : Sl := ⟨List.replicate n [], c⟩
def at_ (s : Sl) (i : Nat) : List Nat := (s.ls[i]?).getD []
/-- The cells of a list that may be none. -/
def of_ (s : Sl) (i : Int) : List Nat := if 0 ≤ i then s.at_ i.toNat else []
def whr (s : Sl) (c : Nat) : Option Nat := s.ls.findIdx? (fun l => l.contains c)
def put (s : Sl) (i : Nat) (l : List Nat) : Sl := ⟨s.ls.set i l, s.cells⟩
def hasL (s : Sl) (i : Int) : Bool := decide (0 ≤ i) && decide (i < (s.ls.length : Int))
def hasC (s : Sl) (c : Int) : Bool := decide (0 ≤ c) && decide (c < (s.cells : Int))
/-- The list of a cell that may be none, if there is one. -/
def whi (s : Sl) (c : Int) : Option Nat := if 0 ≤ c then s.whr c.toNat else none
def pushE (s : Sl) (l c : Int) : Int := if s.hasL l && s.hasC c then (if (s.whr c.toNat).isSome then 8 else 0) else 2
def push (s : Sl) (l c : Int) : Sl := if s.pushE l c = 0 then s.put l.toNat (s.at_ l.toNat ++ [c.toNat]) else s
def remE (s : Sl) (c : Int) : Int := if s.hasC c then (if (s.whr c.toNat).isSome then 0 else 7) else 2
def rem (s : Sl) (c : Int) : Sl := match s.whi c with
  | some i => s.put i ((s.at_ i).filter (· != c.toNat))
  | none => s
def pop (s : Sl) (l : Int) : Sl := match s.of_ l with
  | [] => s
  | _ :: t => s.put l.toNat t

structure Ok (s : Sl) : Prop where
  low : ∀ i c, c ∈ s.at_ i → c < s.cells
  nodup : ∀ i, (s.at_ i).Nodup
  one : ∀ i j c, c ∈ s.at_ i → c ∈ s.at_ j → i = j

theorem at_out {s : Sl} {i : Nat} (h : s.ls.length ≤ i) : s.at_ i = [] := by
  unfold at_
  rw [List.getElem?_eq_none h]; rfl
theorem at_lt {s : Sl} {i c : Nat} (h : c ∈ s.at_ i) : i < s.ls.length := by
  rcases Nat.lt_or_ge i s.ls.length with q | q
  · exact q
  · rw [at_out q] at h
    cases h
theorem at_put {s : Sl} {i : Nat} (hi : i < s.ls.length) (l : List Nat) (j : Nat) : (s.put i l).at_ j = if j = i then l else s.at_ j := by
  unfold at_ put
  simp only
  rw [List.getElem?_set]
  by_cases h : i = j
  · subst h; simp [hi]
  · have h' : ¬ j = i := fun e => h e.symm
    simp [h, h']
theorem put_len (s : Sl) (i : Nat) (l : List Nat) : (s.put i l).ls.length = s.ls.length := List.length_set
theorem at_new (n c i : Nat) : (new n c).at_ i = [] := by
  unfold at_ new
  simp only
  rw [List.getElem?_replicate]
  split <;> rfl
theorem ok_new (n c : Nat) : (new n c).Ok :=
  ⟨fun i x h => (by rw [at_new] at h; cases h), fun i => (by rw [at_new]; exact List.nodup_nil), fun i j x h => (by rw [at_new] at h; cases h)⟩
theorem whr_some {s : Sl} (hs : s.Ok) {c i : Nat} : s.whr c = some i ↔ c ∈ s.at_ i := by
  unfold whr
  rw [List.findIdx?_eq_some_iff_getElem]
  constructor
  · rintro ⟨h, h1, _⟩
    unfold at_
    rw [List.getElem?_eq_getElem h]
    simpa using h1
  · intro h
    have hi := at_lt h
    have h0 := h
    unfold at_ at h
    rw [List.getElem?_eq_getElem hi] at h
    refine ⟨hi, by simpa using h, fun j hj => ?_⟩
    have hjl : j < s.ls.length := by omega
    intro hc
    have : c ∈ s.at_ j := by
      unfold at_
      rw [List.getElem?_eq_getElem hjl]
      simpa using hc
    have := hs.one _ _ _ this h0
    omega
theorem whr_none {s : Sl} {c : Nat} : s.whr c = none ↔ ∀ i, ¬ c ∈ s.at_ i := by
  unfold whr
  rw [List.findIdx?_eq_none_iff]
  constructor
  · intro h i hi
    have hl := at_lt hi
    unfold at_ at hi
    rw [List.getElem?_eq_getElem hl] at hi
    have := h _ (List.getElem_mem hl)
    simp at this
    exact this hi
  · intro h x hx
    obtain ⟨i, hi, rfl⟩ := List.getElem_of_mem hx
    have := h i
    unfold at_ at this
    rw [List.getElem?_eq_getElem hi] at this
    simpa using this
theorem ok_put {s : Sl} (hs : s.Ok) {i : Nat} (hi : i < s.ls.length) {l : List Nat} (hn : l.Nodup) (hl : ∀ c, c ∈ l → c < s.cells) (ho : ∀ c j, c ∈ l → c ∈ s.at_ j → j = i) : (s.put i l).Ok := by
  have ha := at_put hi l
  refine ⟨fun j c h => ?_, fun j => ?_, fun j k c h1 h2 => ?_⟩
  · rw [ha] at h
    split at h
    · exact hl c h
    · exact hs.low j c h
  · rw [ha]
    split
    · exact hn
    · exact hs.nodup j
  · rw [ha] at h1 h2
    split at h1 <;> split at h2
    · omega
    · rename_i e _
      rw [ho c k h1 h2, e]
    · rename_i e
      rw [ho c j h2 h1, e]
    · exact hs.one j k c h1 h2
theorem ok_push {s : Sl} (hs : s.Ok) (l c : Int) : (s.push l c).Ok := by
  unfold push
  split
  · rename_i h
    unfold pushE at h
    split at h
    · rename_i hh
      split at h
      · cases h
      · rename_i hw
        simp [hasL, hasC] at hh
        have hw' : s.whr c.toNat = none := by simpa using hw
        rw [whr_none] at hw'
        refine ok_put hs (by omega) ?_ ?_ ?_
        · rw [List.nodup_append]
          refine ⟨hs.nodup _, by simp, fun a ha b hb e => ?_⟩
          simp at hb
          subst hb; subst e
          exact hw' _ ha
        · intro d hd
          rcases List.mem_append.1 hd with hd | hd
          · exact hs.low _ _ hd
          · simp at hd
            omega
        · intro d j hd hj
          rcases List.mem_append.1 hd with hd | hd
          · exact hs.one _ _ _ hj hd
          · simp at hd
            subst hd
            exact absurd hj (hw' j)
    · cases h
  · exact hs
theorem ok_rem {s : Sl} (hs : s.Ok) (c : Int) : (s.rem c).Ok := by
  unfold rem
  split
  · rename_i i h
    unfold whi at h
    split at h
    · rw [whr_some hs] at h
      refine ok_put hs (at_lt h) ((hs.nodup i).filter _) ?_ ?_
      · intro d hd
        exact hs.low i d (List.mem_filter.1 hd).1
      · intro d j hd hj
        exact hs.one _ _ _ hj (List.mem_filter.1 hd).1
    · cases h
  · exact hs
theorem of_some {s : Sl} {l : Int} {x : Nat} {t : List Nat} (h : s.of_ l = x :: t) : 0 ≤ l ∧ l.toNat < s.ls.length ∧ s.at_ l.toNat = x :: t := by
  unfold of_ at h
  split at h
  · rename_i h0
    exact ⟨h0, at_lt (c := x) (by rw [h]; simp), h⟩
  · cases h
theorem ok_pop {s : Sl} (hs : s.Ok) (l : Int) : (s.pop l).Ok := by
  unfold pop
  split
  · exact hs
  · rename_i x t h
    obtain ⟨h0, h1, h2⟩ := of_some h
    have hn := hs.nodup l.toNat
    rw [h2] at hn
    refine ok_put hs h1 (List.nodup_cons.1 hn).2 ?_ ?_
    · intro d hd
      exact hs.low l.toNat d (by rw [h2]; exact List.mem_cons_of_mem _ hd)
    · intro d j hd hj
      exact hs.one _ _ _ hj (by rw [h2]; exact List.mem_cons_of_mem _ hd)
theorem push_len (s : Sl) (l c : Int) : (s.push l c).ls.length = s.ls.length := by
  unfold push; split
  · exact put_len ..
  · rfl
theorem push_cells (s : Sl) (l c : Int) : (s.push l c).cells = s.cells := by unfold push; split <;> rfl
theorem rem_len (s : Sl) (c : Int) : (s.rem c).ls.length = s.ls.length := by
  unfold rem; split
  · exact put_len ..
  · rfl
theorem rem_cells (s : Sl) (c : Int) : (s.rem c).cells = s.cells := by unfold rem; split <;> rfl
theorem pop_len (s : Sl) (l : Int) : (s.pop l).ls.length = s.ls.length := by
  unfold pop; split
  · rfl
  · exact put_len ..
theorem pop_cells (s : Sl) (l : Int) : (s.pop l).cells = s.cells := by unfold pop; split <;> rfl
theorem nodup_bound : ∀ (n : Nat) (l : List Nat), l.Nodup → (∀ c, c ∈ l → c < n) → l.length ≤ n
  | 0, [], _, _ => Nat.le_refl _
  | 0, c :: _, _, h => absurd (h c (List.mem_cons_self ..)) (Nat.not_lt_zero _)
  | n + 1, l, hn, h => by
    have h2 := nodup_bound n (l.erase n) (hn.erase n) (fun c hc => by
      have h3 := (hn.mem_erase_iff).1 hc
      have := h c h3.2
      have := h3.1
      omega)
    have h3 := List.length_erase (a := n) (l := l)
    split at h3 <;> omega
/-- A list has at most as many as there are cells. -/
theorem at_length {s : Sl} (hs : s.Ok) (i : Nat) : (s.at_ i).length ≤ s.cells := nodup_bound _ _ (hs.nodup i) (hs.low i)
end Sl

/-! Rings. -/
/-- From a on, linked both ways, cells of a list, to b. -/
def Ch (nx pv : Nat → Nat) : Nat → List Nat → Nat → Prop
  | a, [], b => nx a = b ∧ pv b = a
  | a, x :: t, b => nx a = x ∧ pv x = a ∧ Ch nx pv x t b
/-- The last one, or a. -/
def lastOr : Nat → List Nat → Nat
  | a, [] => a
  | _, x :: t => lastOr x t
theorem lastOr_mem : ∀ (a : Nat) (l : List Nat), lastOr a l = a ∨ lastOr a l ∈ l
  | a, [] => .inl rfl
  | a, x :: t => by
    rcases lastOr_mem x t with h | h
    · right
      show lastOr x t ∈ x :: t
      rw [h]
      exact List.mem_cons_self ..
    · right
      exact List.mem_cons_of_mem _ h
theorem lastOr_app : ∀ (a : Nat) (l m : List Nat), lastOr a (l ++ m) = lastOr (lastOr a l) m
  | _, [], _ => rfl
  | _, x :: t, m => lastOr_app x t m
theorem Ch.app {nx pv : Nat → Nat} {x : Nat} {t : List Nat} {b : Nat} : ∀ {a : Nat} {l : List Nat}, Ch nx pv a (l ++ x :: t) b ↔ Ch nx pv a l x ∧ Ch nx pv x t b
  | _, [] => ⟨fun h => ⟨⟨h.1, h.2.1⟩, h.2.2⟩, fun h => ⟨h.1.1, h.1.2, h.2⟩⟩
  | a, y :: l => by
    show (nx a = y ∧ pv y = a ∧ Ch nx pv y (l ++ x :: t) b) ↔ (nx a = y ∧ pv y = a ∧ Ch nx pv y l x) ∧ _
    rw [Ch.app (a := y) (l := l)]
    exact ⟨fun h => ⟨⟨h.1, h.2.1, h.2.2.1⟩, h.2.2.2⟩, fun h => ⟨h.1.1, h.1.2.1, h.1.2.2, h.2⟩⟩
theorem Ch.ends {nx pv : Nat → Nat} {b : Nat} : ∀ {a : Nat} {l : List Nat}, Ch nx pv a l b → nx (lastOr a l) = b ∧ pv b = lastOr a l
  | _, [], h => h
  | _, x :: t, h => Ch.ends (a := x) (l := t) h.2.2
theorem Ch.same {nx pv nx' pv' : Nat → Nat} {b : Nat} : ∀ {a : Nat} {l : List Nat}, Ch nx pv a l b → (∀ k, k = a ∨ k ∈ l → nx' k = nx k) → (∀ k, k ∈ l ∨ k = b → pv' k = pv k) → Ch nx' pv' a l b
  | a, [], h, h1, h2 => ⟨(h1 a (.inl rfl)).trans h.1, (h2 b (.inr rfl)).trans h.2⟩
  | a, x :: t, h, h1, h2 => ⟨(h1 a (.inl rfl)).trans h.1, (h2 x (.inl (List.mem_cons_self ..))).trans h.2.1, Ch.same (a := x) (l := t) h.2.2
      (fun k hk => h1 k (.inr (by rcases hk with rfl | hk; exact List.mem_cons_self ..; exact List.mem_cons_of_mem _ hk)))
      (fun k hk => h2 k (hk.imp (List.mem_cons_of_mem _) id))⟩
/-- The end is another one. -/
theorem Ch.relink {nx pv nx' pv' : Nat → Nat} {b b' : Nat} : ∀ {a : Nat} {l : List Nat}, Ch nx pv a l b → (a :: l).Nodup → (∀ k, k = a ∨ k ∈ l → k ≠ lastOr a l → nx' k = nx k) → (∀ k, k ∈ l → pv' k = pv k) →
    nx' (lastOr a l) = b' → pv' b' = lastOr a l → Ch nx' pv' a l b'
  | a, [], h, _, h1, h2, h3, h4 => ⟨h3, h4⟩
  | a, x :: t, h, hn, h1, h2, h3, h4 => by
    have hne : a ≠ lastOr x t := fun e => by
      rcases lastOr_mem x t with q | q
      · rw [q] at e
        subst e
        exact (List.nodup_cons.1 hn).1 (List.mem_cons_self ..)
      · rw [← e] at q
        exact (List.nodup_cons.1 hn).1 (List.mem_cons_of_mem _ q)
    refine ⟨(h1 a (.inl rfl) hne).trans h.1, (h2 x (List.mem_cons_self ..)).trans h.2.1, Ch.relink (a := x) (l := t) h.2.2 (List.nodup_cons.1 hn).2 (fun k hk => h1 k (.inr (by rcases hk with rfl | hk; exact List.mem_cons_self ..; exact List.mem_cons_of_mem _ hk))) (fun k hk => h2 k (List.mem_cons_of_mem _ hk)) h3 h4⟩
/-- The one behind the ones of l. -/
def hdOr : List Nat → Nat → Nat
  | [], b => b
  | x :: _, _ => x
theorem Ch.first {nx pv : Nat → Nat} {a b : Nat} {l : List Nat} (h : Ch nx pv a l b) : nx a = hdOr l b := by
  cases l with
  | nil => exact h.1
  | cons x t => exact h.1
/-- x is taken out. -/
theorem Ch.cut {nx pv nx' pv' : Nat → Nat} {o x : Nat} {ys zs : List Nat} (h : Ch nx pv o (ys ++ x :: zs) o) (hn : (o :: (ys ++ x :: zs)).Nodup)
    (h1 : ∀ k, k ≠ lastOr o ys → k ≠ x → nx' k = nx k) (h2 : ∀ k, k ≠ hdOr zs o → k ≠ x → pv' k = pv k) (h3 : nx' (lastOr o ys) = hdOr zs o) (h4 : pv' (hdOr zs o) = lastOr o ys) : Ch nx' pv' o (ys ++ zs) o := by
  obtain ⟨ha, hb⟩ := Ch.app.1 h
  have hn1 : (o :: ys).Nodup := by
    have := hn
    rw [← List.cons_append, List.nodup_append] at this
    exact this.1
  rw [← List.cons_append, List.nodup_append] at hn
  obtain ⟨_, hn2, hd⟩ := hn
  have hxy : ∀ k, k ∈ o :: ys → k ≠ x := fun k hk e => hd k hk x (List.mem_cons_self ..) e
  cases zs with
  | nil =>
    rw [List.append_nil]
    refine ha.relink hn1 (fun k hk hl => h1 k hl (hxy k ?_)) (fun k hk => h2 k ?_ (hxy k (List.mem_cons_of_mem _ hk))) h3 h4
    · rcases hk with rfl | hk
      · exact List.mem_cons_self ..
      · exact List.mem_cons_of_mem _ hk
    · show k ≠ o
      intro e
      subst e
      exact (List.nodup_cons.1 hn1).1 hk
  | cons z t =>
    have hz : ∀ k, k ∈ z :: t → ¬ k ∈ o :: ys := fun k hk hy => hd k hy k (List.mem_cons_of_mem _ hk) rfl
    have hl : lastOr o ys ∈ o :: ys := by
      rcases lastOr_mem o ys with q | q
      · rw [q]
        exact List.mem_cons_self ..
      · exact List.mem_cons_of_mem _ q
    have hxn := (List.nodup_cons.1 hn2).1
    have hzt := (List.nodup_cons.1 hn2).2
    refine Ch.app.2 ⟨?_, ?_⟩
    · refine ha.relink hn1 (fun k hk hl => h1 k hl (hxy k ?_)) (fun k hk => h2 k ?_ (hxy k (List.mem_cons_of_mem _ hk))) h3 h4
      · rcases hk with rfl | hk
        · exact List.mem_cons_self ..
        · exact List.mem_cons_of_mem _ hk
      · show k ≠ z
        intro e
        subst e
        exact hz k (List.mem_cons_self ..) (List.mem_cons_of_mem _ hk)
    · refine hb.2.2.same (fun k hk => h1 k ?_ ?_) (fun k hk => h2 k ?_ ?_)
      · intro e
        have hk' : k ∈ z :: t := by
          rcases hk with rfl | hk
          · exact List.mem_cons_self ..
          · exact List.mem_cons_of_mem _ hk
        exact hz k hk' (by rw [e]; exact hl)
      · intro e
        subst e
        refine hxn ?_
        rcases hk with e | hk
        · rw [e]
          exact List.mem_cons_self ..
        · exact List.mem_cons_of_mem _ hk
      · show k ≠ z
        intro e
        subst e
        rcases hk with hk | hk
        · exact (List.nodup_cons.1 hzt).1 hk
        · exact hz k (List.mem_cons_self ..) (by rw [hk]; exact List.mem_cons_self ..)
      · intro e
        subst e
        rcases hk with hk | hk
        · exact hxn (List.mem_cons_of_mem _ hk)
        · exact hxy o (List.mem_cons_self ..) hk.symm
/-- c is put behind the last one. -/
theorem Ch.push {nx pv nx' pv' : Nat → Nat} {o c : Nat} {l : List Nat} (h : Ch nx pv o l o) (hn : (o :: l).Nodup) (hc : ¬ c ∈ o :: l)
    (h1 : ∀ k, k ≠ lastOr o l → k ≠ c → nx' k = nx k) (h2 : ∀ k, k ≠ o → k ≠ c → pv' k = pv k) (h3 : nx' (lastOr o l) = c) (h4 : pv' c = lastOr o l) (h5 : nx' c = o) (h6 : pv' o = c) : Ch nx' pv' o (l ++ [c]) o := by
  refine Ch.app.2 ⟨?_, h5, h6⟩
  refine h.relink hn (fun k hk hl => h1 k hl ?_) (fun k hk => h2 k ?_ ?_) h3 h4
  · intro e
    subst e
    refine hc ?_
    rcases hk with e | hk
    · rw [e]
      exact List.mem_cons_self ..
    · exact List.mem_cons_of_mem _ hk
  · intro e
    subst e
    exact (List.nodup_cons.1 hn).1 hk
  · intro e
    subst e
    exact hc (List.mem_cons_of_mem _ hk)
end Go.Proofs.Ythlnhkkjpjbmeaa
