import Derived.Test.YtimcdnbfdkpffaaGreatGm0
import Derived.Orders
import Derived.Laws.MakeOwn
import Derived.Tactics
import Derived.Laws.Rows
import Derived.Test.YtimcdnbfdkpffaaGreatRows
import Derived.KernelRfl
import Derived.Laws.StructEq
/- Stage 13: a table of places in pure words: its calls, what follows. -/
namespace Go.Proofs.YtimcdnbfdkpffaaGreat
set_option maxRecDepth 100000
/-- The first number below m of which p holds. -/
def fstI (p : Nat → Bool) : Nat → Option Nat
  | 0 => none
  | m + 1 => match fstI p m with
    | some i => some i
    | none => if p m then some m else none
theorem fstI_some {p : Nat → Bool} : ∀ {m i : Nat}, fstI p m = some i ↔ i < m ∧ p i = true ∧ ∀ j, j < i → p j = false
  | 0, i => by simp [fstI]
  | m + 1, i => by
    have ih := @fstI_some p m
    have ihn : fstI p m = none ↔ ∀ j, j < m → p j = false := by
      constructor
      · intro h j hj
        cases hp : p j with
        | false => rfl
        | true =>
          exfalso
          have : ∃ k, k ≤ j ∧ p k = true ∧ ∀ q, q < k → p q = false := by
            clear h ih hj
            induction j using Nat.strongRecOn with
            | ind j IH =>
              by_cases hq : ∀ q, q < j → p q = false
              · exact ⟨j, Nat.le_refl _, hp, hq⟩
              · simp only [Classical.not_forall] at hq
                obtain ⟨q, hq1, hq2⟩ := hq
                have hq3 : p q = true := by simpa using hq2
                obtain ⟨k, h1, h2, h3⟩ := IH q hq1 hq3
                exact ⟨k, by omega, h2, h3⟩
          obtain ⟨k, hk, h1, h2⟩ := this
          have := ih.2 ⟨show k < m by omega, h1, h2⟩
          rw [h] at this
          cases this
      · intro h
        cases hf : fstI p m with
        | none => rfl
        | some j =>
          obtain ⟨h1, h2, _⟩ := ih.1 hf
          rw [h j h1] at h2
          cases h2
    unfold fstI
    cases hf : fstI p m with
    | some j =>
      simp only [Option.some.injEq]
      obtain ⟨h1, h2, h3⟩ := ih.1 hf
      constructor
      · rintro rfl
        exact ⟨by omega, h2, h3⟩
      · rintro ⟨h4, h5, h6⟩
        rcases Nat.lt_trichotomy i j with q | q | q
        · rw [h3 i q] at h5
          cases h5
        · exact q.symm
        · rw [h6 j q] at h2
          cases h2
    | none =>
      have hn := ihn.1 hf
      simp only
      split
      · rename_i hp
        simp only [Option.some.injEq]
        constructor
        · rintro rfl
          exact ⟨by omega, hp, hn⟩
        · rintro ⟨h4, h5, h6⟩
          rcases (show i < m ∨ i = m by omega) with q | q
          · rw [hn i q] at h5
            cases h5
          · exact q.symm
      · rename_i hp
        constructor
        · intro h
          cases h
        · rintro ⟨h4, h5, h6⟩
          rcases (show i < m ∨ i = m by omega) with q | rfl
          · rw [hn i q] at h5
            cases h5
          · exact absurd h5 hp
theorem fstI_none {p : Nat → Bool} {m : Nat} : fstI p m = none ↔ ∀ j, j < m → p j = false := by
  constructor
  · intro h j hj
    cases hp : p j with
    | false => rfl
    | true =>
      exfalso
      have : ∀ k, k < m → p k = true → False := by
        intro k
        induction k using Nat.strongRecOn with
        | ind k IH =>
          intro hk hpk
          by_cases hq : ∀ q, q < k → p q = false
          · have := fstI_some.2 ⟨hk, hpk, hq⟩
            rw [h] at this
            cases this
          · simp only [Classical.not_forall] at hq
            obtain ⟨q, hq1, hq2⟩ := hq
            exact IH q hq1 (by omega) (by simpa using hq2)
      exact this j hj hp
  · intro h
    cases hf : fstI p m with
    | none => rfl
    | some j =>
      obtain ⟨h1, h2, _⟩ := fstI_some.1 hf
      rw [h j h1] at h2
      cases h2
/-- How many numbers below m there are of which p holds. -/
def cntI (p : Nat → Bool) : Nat → Nat
  | 0 => 0
  | m + 1 => cntI p m + if p m then 1 else 0
theorem cntI_le (p : Nat → Bool) : ∀ m, cntI p m ≤ m
  | 0 => Nat.le_refl _
  | m + 1 => by
    have := cntI_le p m
    unfold cntI
    split <;> omega
theorem cntI_same {p q : Nat → Bool} : ∀ {m : Nat}, (∀ k, k < m → p k = q k) → cntI p m = cntI q m
  | 0, _ => rfl
  | m + 1, h => by
    unfold cntI
    rw [cntI_same fun k hk => h k (by omega), h m (by omega)]
theorem cntI_zero {p : Nat → Bool} : ∀ {m : Nat}, (∀ k, k < m → p k = false) → cntI p m = 0
  | 0, _ => rfl
  | m + 1, h => by
    unfold cntI
    rw [cntI_zero fun k hk => h k (by omega), h m (by omega)]
    rfl
def updB (f : Nat → Bool) (p : Nat) (v : Bool) (k : Nat) : Bool := if k = p then v else f k
def updM (f : Nat → Nat) (p : Nat) (v : Nat) (k : Nat) : Nat := if k = p then v else f k
theorem updB_at (f : Nat → Bool) (p : Nat) (v : Bool) : updB f p v p = v := if_pos rfl
theorem updM_at (f : Nat → Nat) (p v : Nat) : updM f p v p = v := if_pos rfl
theorem updB_ne {f : Nat → Bool} {p k : Nat} {v : Bool} (h : k ≠ p) : updB f p v k = f k := if_neg h
theorem updM_ne {f : Nat → Nat} {p k v : Nat} (h : k ≠ p) : updM f p v k = f k := if_neg h
theorem cntI_upd (f : Nat → Bool) (p : Nat) (v : Bool) : ∀ {m : Nat}, p < m → cntI (updB f p v) m + (if f p then 1 else 0) = cntI f m + (if v then 1 else 0)
  | 0, h => absurd h (Nat.not_lt_zero _)
  | m + 1, h => by
    show cntI (updB f p v) m + (if updB f p v m then 1 else 0) + _ = cntI f m + (if f m then 1 else 0) + _
    by_cases e : p = m
    · subst e
      rw [updB_at, cntI_same (p := updB f p v) (q := f) fun k hk => updB_ne (by omega)]
      omega
    · have := cntI_upd f p v (m := m) (by omega)
      rw [updB_ne (Ne.symm e)]
      omega
/-- A table of n places: of each whether it has an entry, or a mark; its entry (of nothing, where there is none). -/
structure Tb where
  n : Nat
  ful : Nat → Bool
  mrk : Nat → Bool
  eh : Nat → Nat
  ew : Nat → Nat
namespace Tb
structure Ok (s : Tb) : Prop where
  pos : 0 < s.n
  top : s.n ≤ 262144
  hash : ∀ k, s.eh k < 18446744073709551616
  what : ∀ k, s.ew k < 4294967296
  one : ∀ k, s.mrk k = true → s.ful k = false
  no : ∀ k, s.ful k = false → s.eh k = 0 ∧ s.ew k = 0
def new (n : Nat) : Tb := ⟨n, fun _ => false, fun _ => false, fun _ => 0, fun _ => 0⟩
theorem ok_new {n : Nat} (h : 0 < n) (h' : n ≤ 262144) : (new n).Ok := ⟨h, h', fun _ => (by decide : 0 < 18446744073709551616), fun _ => (by decide : 0 < 4294967296), fun _ _ => rfl, fun _ _ => ⟨rfl, rfl⟩⟩
/-- The i-th place from where a hash's way begins, round about. -/
def st (s : Tb) (h i : Nat) : Nat := (h % s.n + i) % s.n
theorem st_lt {s : Tb} (hs : s.Ok) (h i : Nat) : s.st h i < s.n := Nat.mod_lt _ hs.pos
def put (s : Tb) (k h x : Nat) : Tb := ⟨s.n, updB s.ful k true, updB s.mrk k false, updM s.eh k h, updM s.ew k x⟩
def gone (s : Tb) (k : Nat) : Tb := ⟨s.n, updB s.ful k false, updB s.mrk k true, updM s.eh k 0, updM s.ew k 0⟩
theorem ok_put {s : Tb} (hs : s.Ok) (k : Nat) {h x : Nat} (hh : h < 18446744073709551616) (hx : x < 4294967296) : (s.put k h x).Ok := by
  refine ⟨hs.pos, hs.top, fun j => ?_, fun j => ?_, fun j => ?_, fun j => ?_⟩
  · show updM s.eh k h j < _
    unfold updM
    split
    · exact hh
    · exact hs.hash j
  · show updM s.ew k x j < _
    unfold updM
    split
    · exact hx
    · exact hs.what j
  · show updB s.mrk k false j = true → updB s.ful k true j = false
    unfold updB
    split
    · intro h; cases h
    · exact hs.one j
  · show updB s.ful k true j = false → updM s.eh k h j = 0 ∧ updM s.ew k x j = 0
    unfold updB updM
    split
    · intro h; cases h
    · exact hs.no j
theorem ok_gone {s : Tb} (hs : s.Ok) (k : Nat) : (s.gone k).Ok := by
  refine ⟨hs.pos, hs.top, fun j => ?_, fun j => ?_, fun j => ?_, fun j => ?_⟩
  · show updM s.eh k 0 j < _
    unfold updM
    split
    · decide
    · exact hs.hash j
  · show updM s.ew k 0 j < _
    unfold updM
    split
    · decide
    · exact hs.what j
  · show updB s.mrk k true j = true → updB s.ful k false j = false
    unfold updB
    split
    · intro _; rfl
    · exact hs.one j
  · show updB s.ful k false j = false → updM s.eh k 0 j = 0 ∧ updM s.ew k 0 j = 0
    unfold updB updM
    split
    · intro _; exact ⟨rfl, rfl⟩
    · exact hs.no j
/-- Where an entry of a hash is put, told by its step. -/
def free (s : Tb) (h : Nat) : Option Nat := fstI (fun i => !s.ful (s.st h i)) s.n
def pt (s : Tb) (h x : Nat) : Tb := match s.free h with
  | none => s
  | some i => s.put (s.st h i) h x
def ptI (s : Tb) (h : Nat) : Nat := match s.free h with
  | none => 0
  | some i => s.st h i
def ptE (s : Tb) (h : Nat) : Int := match s.free h with
  | none => 9
  | some _ => 0
theorem ok_pt {s : Tb} (hs : s.Ok) {h x : Nat} (hh : h < 18446744073709551616) (hx : x < 4294967296) : (s.pt h x).Ok := by
  unfold pt
  split
  · exact hs
  · exact ok_put hs _ hh hx
/-- Behind Drop of a place; the error that is told. -/
def isF (s : Tb) (p : Int) : Bool := decide (0 ≤ p) && decide (p < (s.n : Int)) && s.ful p.toNat
def dr (s : Tb) (p : Int) : Tb := if s.isF p then s.gone p.toNat else s
def drE (s : Tb) (p : Int) : Int := if decide (0 ≤ p) && decide (p < (s.n : Int)) then (if s.ful p.toNat then 0 else 7) else 2
theorem ok_dr {s : Tb} (hs : s.Ok) (p : Int) : (s.dr p).Ok := by
  unfold dr
  split
  · exact ok_gone hs _
  · exact hs
theorem dr_n (s : Tb) (p : Int) : (s.dr p).n = s.n := by
  unfold dr
  split <;> rfl
/-- What Get tells of a place. -/
def gtV (s : Tb) (p : Int) : Array Value := if s.isF p then #[.int .u64 (s.eh p.toNat : Int), .int .u32 (s.ew p.toNat : Int)] else #[.int .u64 0, .int .u32 0]
def entries (s : Tb) : Nat := cntI s.ful s.n
def marks (s : Tb) : Nat := cntI s.mrk s.n
/-- A hash's way: its end; the places with entries of that hash among the first m ones. -/
def lim (s : Tb) (h : Nat) : Nat := (fstI (fun i => !s.ful (s.st h i) && !s.mrk (s.st h i)) s.n).getD s.n
def on (s : Tb) (h i : Nat) : Bool := s.ful (s.st h i) && s.eh (s.st h i) == h
def wayU (s : Tb) (h : Nat) : Nat → List Nat
  | 0 => []
  | m + 1 => wayU s h m ++ if s.on h m then [s.st h m] else []
def way (s : Tb) (h : Nat) : List Nat := s.wayU h (s.lim h)
theorem lim_le (s : Tb) (h : Nat) : s.lim h ≤ s.n := by
  unfold lim
  cases e : fstI _ s.n with
  | none => exact Nat.le_refl _
  | some i => exact Nat.le_of_lt (fstI_some.1 e).1
/-- At its end: an empty place, or it has gone round. -/
theorem lim_end {s : Tb} {h : Nat} (hl : s.lim h < s.n) : s.ful (s.st h (s.lim h)) = false ∧ s.mrk (s.st h (s.lim h)) = false := by
  unfold lim at hl ⊢
  cases e : fstI (fun i => !s.ful (s.st h i) && !s.mrk (s.st h i)) s.n with
  | none => rw [e] at hl; exact absurd hl (Nat.lt_irrefl _)
  | some i =>
    have := (fstI_some.1 e).2.1
    simpa using this
theorem lim_in {s : Tb} {h i : Nat} (hi : i < s.lim h) : s.ful (s.st h i) = true ∨ s.mrk (s.st h i) = true := by
  unfold lim at hi
  have key : (!s.ful (s.st h i) && !s.mrk (s.st h i)) = false := by
    cases e : fstI (fun i => !s.ful (s.st h i) && !s.mrk (s.st h i)) s.n with
    | none =>
      rw [e] at hi
      exact fstI_none.1 e i hi
    | some j =>
      rw [e] at hi
      exact (fstI_some.1 e).2.2 i hi
  cases h1 : s.ful (s.st h i) with
  | true => exact .inl rfl
  | false =>
    rw [h1] at key
    exact .inr (by simpa using key)
theorem wayU_lt {s : Tb} (hs : s.Ok) (h : Nat) : ∀ {m k : Nat}, k ∈ s.wayU h m → k < s.n
  | 0, _, e => by cases e
  | m + 1, k, e => by
    unfold wayU at e
    rcases List.mem_append.1 e with q | q
    · exact wayU_lt hs h q
    · split at q
      · rw [List.mem_singleton] at q
        rw [q]
        exact st_lt hs h m
      · cases q
theorem wayU_mem {s : Tb} {h : Nat} : ∀ {m k : Nat}, k ∈ s.wayU h m ↔ ∃ i, i < m ∧ s.on h i = true ∧ s.st h i = k
  | 0, k => by simp [wayU]
  | m + 1, k => by
    unfold wayU
    rw [List.mem_append, wayU_mem]
    constructor
    · rintro (⟨i, h1, h2, h3⟩ | q)
      · exact ⟨i, by omega, h2, h3⟩
      · split at q
        · rename_i ho
          rw [List.mem_singleton] at q
          exact ⟨m, by omega, ho, q.symm⟩
        · cases q
    · rintro ⟨i, h1, h2, h3⟩
      rcases (show i < m ∨ i = m by omega) with q | rfl
      · exact .inl ⟨i, q, h2, h3⟩
      · right
        rw [if_pos h2, h3]
        exact List.mem_singleton.2 rfl
theorem wayU_pre (s : Tb) (h : Nat) {m : Nat} : ∀ {m' : Nat}, m ≤ m' → s.wayU h m <+: s.wayU h m'
  | 0, hm => by
    obtain rfl : m = 0 := by omega
    exact List.prefix_rfl
  | m' + 1, hm => by
    rcases (show m ≤ m' ∨ m = m' + 1 by omega) with q | rfl
    · exact (wayU_pre s h q).trans (List.prefix_append _ _)
    · exact List.prefix_rfl
/-- The entry of a hash that is of a number: its place. -/
def find (s : Tb) (h x : Nat) : Option Nat := (s.way h).find? (fun k => s.ew k == x)
theorem find_lt {s : Tb} (hs : s.Ok) {h x k : Nat} (hf : s.find h x = some k) : k < s.n := wayU_lt hs h (List.mem_of_find?_eq_some hf)
theorem find_ful {s : Tb} {h x k : Nat} (hf : s.find h x = some k) : s.ful k = true ∧ s.eh k = h ∧ s.ew k = x := by
  have h1 := List.mem_of_find?_eq_some hf
  have h2 := List.find?_some hf
  obtain ⟨i, _, h3, rfl⟩ := wayU_mem.1 h1
  unfold on at h3
  simp only [Bool.and_eq_true, beq_iff_eq] at h3 h2
  exact ⟨h3.1, h3.2, h2⟩
def fdV (s : Tb) (h x : Nat) : Array Value := match s.find h x with
  | none => #[.int .i64 0, .bool false]
  | some k => #[.int .i64 (k : Int), .bool true]
/-- The entries that All tells of the first m places. -/
def allU (s : Tb) : Nat → List (Nat × Nat × Nat)
  | 0 => []
  | m + 1 => allU s m ++ if s.ful m then [(m, s.eh m, s.ew m)] else []
def all (s : Tb) : List (Nat × Nat × Nat) := s.allU s.n
end Tb
end Go.Proofs.YtimcdnbfdkpffaaGreat
/- Stage 13: what TableFinds rests on, in pure words. -/
namespace Go.Proofs.YtimcdnbfdkpffaaGreat
set_option maxRecDepth 100000
namespace Tb
variable {s : Tb}
theorem st_inj (hs : s.Ok) {h i j : Nat} (hi : i < s.n) (hj : j < s.n) (e : s.st h i = s.st h j) : i = j := by
  unfold st at e
  have hm := Nat.mod_lt h hs.pos
  generalize h % s.n = a at *
  by_cases q1 : a + i < s.n
  · by_cases q2 : a + j < s.n
    · rw [Nat.mod_eq_of_lt q1, Nat.mod_eq_of_lt q2] at e
      omega
    · rw [Nat.mod_eq_of_lt q1, Nat.mod_eq_sub_mod (by omega), Nat.mod_eq_of_lt (by omega)] at e
      omega
  · by_cases q2 : a + j < s.n
    · rw [Nat.mod_eq_sub_mod (by omega), Nat.mod_eq_of_lt (by omega), Nat.mod_eq_of_lt q2] at e
      omega
    · rw [Nat.mod_eq_sub_mod (by omega), Nat.mod_eq_of_lt (show a + i - s.n < s.n by omega), Nat.mod_eq_sub_mod (by omega), Nat.mod_eq_of_lt (show a + j - s.n < s.n by omega)] at e
      omega
theorem st_onto (hs : s.Ok) (h : Nat) {k : Nat} (hk : k < s.n) : ∃ i, i < s.n ∧ s.st h i = k := by
  unfold st
  have hm := Nat.mod_lt h hs.pos
  generalize h % s.n = a at *
  by_cases q : a ≤ k
  · exact ⟨k - a, by omega, by rw [Nat.mod_eq_of_lt (by omega)]; omega⟩
  · exact ⟨k + s.n - a, by omega, by rw [show a + (k + s.n - a) = k + s.n by omega, Nat.add_mod_right, Nat.mod_eq_of_lt hk]⟩
/-- Ahead of a place, on its entry's way, none is empty. -/
def Rch (s : Tb) (k : Nat) : Prop := ∀ i, i < s.n → s.st (s.eh k) i = k → ∀ j, j < i → s.ful (s.st (s.eh k) j) = true ∨ s.mrk (s.st (s.eh k) j) = true
theorem rch_way (hs : s.Ok) {k : Nat} (hk : k < s.n) (hf : s.ful k = true) (hr : s.Rch k) : k ∈ s.way (s.eh k) := by
  obtain ⟨i, hi, e⟩ := st_onto hs (s.eh k) hk
  refine wayU_mem.2 ⟨i, ?_, ?_, e⟩
  · rcases Nat.lt_or_ge i (s.lim (s.eh k)) with q | q
    · exact q
    · exfalso
      have hl : s.lim (s.eh k) < s.n := by omega
      have h2 := lim_end hl
      rcases Nat.lt_or_ge (s.lim (s.eh k)) i with r | r
      · rcases hr i hi e _ r with a | a
        · rw [h2.1] at a; cases a
        · rw [h2.2] at a; cases a
      · have : s.lim (s.eh k) = i := by omega
        rw [this, e, hf] at h2
        cases h2.1
  · unfold on
    rw [e, hf]
    simp
/-- What is there once, and can be reached, is found. -/
theorem find_one (hs : s.Ok) {k h x : Nat} (hk : k < s.n) (hf : s.ful k = true) (hh : s.eh k = h) (hx : s.ew k = x) (hr : s.Rch k) (ho : ∀ j, j < s.n → s.ful j = true → s.ew j = x → j = k) : s.find h x = some k := by
  subst hh
  have hm := rch_way hs hk hf hr
  cases hq : s.find (s.eh k) x with
  | none =>
    unfold find at hq
    rw [List.find?_eq_none] at hq
    have := hq k hm
    simp [hx] at this
  | some j =>
    obtain ⟨h1, _, h3⟩ := find_ful hq
    rw [ho j (find_lt hs hq) h1 h3]
variable {M : List (Nat × Bool)}
theorem st_put (h x k j i : Nat) : (s.put k h x).st j i = s.st j i := rfl
theorem gone_live {K : Nat} : ∀ k, s.ful k = true ∨ s.mrk k = true → (s.gone K).ful k = true ∨ (s.gone K).mrk k = true := fun k hk => by
  by_cases e : k = K
  · subst e
    exact .inr (updB_at ..)
  · show updB s.ful K false k = true ∨ updB s.mrk K true k = true
    rw [updB_ne e, updB_ne e]
    exact hk
theorem gone_ful {K : Nat} : ∀ k, (s.gone K).ful k = true → k ≠ K ∧ s.ful k = true := fun k hk => by
  have hk : updB s.ful K false k = true := hk
  by_cases e : k = K
  · rw [e, updB_at] at hk
    cases hk
  · rw [updB_ne e] at hk
    exact ⟨e, hk⟩
theorem gone_eh {K k : Nat} (e : k ≠ K) : (s.gone K).eh k = s.eh k := updM_ne e
theorem gone_ew {K k : Nat} (e : k ≠ K) : (s.gone K).ew k = s.ew k := updM_ne e
theorem gone_rch {K k : Nat} (e : k ≠ K) (h : s.Rch k) : (s.gone K).Rch k := fun i hi hq j hj => by
  rw [gone_eh e] at hq ⊢
  exact gone_live _ (h i hi hq j hj)
end Tb
end Go.Proofs.YtimcdnbfdkpffaaGreat
/- Stage 14: a growing table in pure words: its calls. -/
namespace Go.Proofs.YtimcdnbfdkpffaaGreat
set_option maxRecDepth 100000
/-- The least power of two of at least 16, and at least m (as far as so many doublings go). -/
def szF : Nat → Nat → Nat → Nat
  | 0, n, _ => n
  | f + 1, n, m => if n < m then szF f (2 * n) m else n
def szN (m : Nat) : Nat := szF 20 16 m
/-- The table of now, the next one (if it moves), the most, the cursor. -/
structure Gr where
  now : Tb
  next : Tb
  mv : Bool
  most : Nat
  at_ : Nat
namespace Gr
structure Ok (s : Gr) : Prop where
  now : s.now.Ok
  next : s.mv = true → s.next.Ok
  low : 16 ≤ s.most
  top : s.most ≤ 262144
  cur : s.mv = true → s.at_ < s.now.n
def new (most : Nat) : Gr := ⟨Tb.new 16, Tb.new 16, false, most, 0⟩
theorem ok_new {most : Nat} (h : 16 ≤ most) (h' : most ≤ 262144) : (new most).Ok := ⟨Tb.ok_new (by decide) (by decide), fun e => (by cases e), h, h', fun e => (by cases e)⟩
def begs (s : Gr) : Bool := !s.mv && decide (s.now.n / 2 < s.now.entries + s.now.marks) && (decide (s.now.n < s.most) || decide (s.now.n / 8 ≤ s.now.marks))
def size (s : Gr) : Nat := if s.most < szN (4 * s.now.entries) then s.most else szN (4 * s.now.entries)
def begun (s : Gr) : Gr := if s.begs then ⟨s.now, Tb.new s.size, true, s.most, 0⟩ else s
theorem szF_low : ∀ f {n : Nat} (m : Nat), 16 ≤ n → 16 ≤ szF f n m
  | 0, _, _, h => h
  | f + 1, n, m, h => by
    unfold szF
    split
    · exact szF_low f m (by omega)
    · exact h
theorem size_ok {s : Gr} (hs : s.Ok) : 16 ≤ s.size ∧ s.size ≤ 262144 := by
  have h1 := hs.low
  have h2 := hs.top
  have h3 : 16 ≤ szN (4 * s.now.entries) := szF_low 20 _ (Nat.le_refl _)
  unfold size
  split <;> omega
theorem ok_begun {s : Gr} (hs : s.Ok) : s.begun.Ok := by
  unfold begun
  split
  · have h := size_ok hs
    exact ⟨hs.now, fun _ => Tb.ok_new (by omega) h.2, hs.low, hs.top, fun _ => hs.now.pos⟩
  · exact hs
/-- The one into which an entry is put; what stands beside; whether there is room. -/
def tgt (s : Gr) : Tb := if s.mv then s.next else s.now
def more (s : Gr) : Nat := if s.mv then s.now.entries else 0
def full (s : Gr) : Bool := decide (s.tgt.n / 4 * 3 < s.tgt.entries + s.tgt.marks + s.more + 1)
def laid (s : Gr) (h x : Nat) : Gr := if s.mv then ⟨s.now, s.next.pt h x, true, s.most, s.at_⟩ else ⟨s.now.pt h x, s.next, false, s.most, s.at_⟩
def pt (s : Gr) (h x : Nat) : Gr := if s.begun.full then s.begun else s.begun.laid h x
def ptE (s : Gr) (h : Nat) : Int := if s.begun.full then 9 else s.begun.tgt.ptE h
theorem ok_laid {s : Gr} (hs : s.Ok) {h x : Nat} (hh : h < 18446744073709551616) (hx : x < 4294967296) : (s.laid h x).Ok := by
  unfold laid
  split
  · rename_i e
    exact ⟨hs.now, fun _ => Tb.ok_pt (hs.next e) hh hx, hs.low, hs.top, fun _ => hs.cur e⟩
  · exact ⟨Tb.ok_pt hs.now hh hx, fun e => (by cases e), hs.low, hs.top, fun e => (by cases e)⟩
theorem ok_pt {s : Gr} (hs : s.Ok) {h x : Nat} (hh : h < 18446744073709551616) (hx : x < 4294967296) : (s.pt h x).Ok := by
  unfold pt
  split
  · exact ok_begun hs
  · exact ok_laid (ok_begun hs) hh hx
/-- Whether an entry is there. -/
def has (s : Gr) (h x : Nat) : Bool := (s.now.find h x).isSome || (s.mv && (s.next.find h x).isSome)
def dr (s : Gr) (h x : Nat) : Gr := match s.now.find h x with
  | some k => ⟨s.now.dr (k : Int), s.next, s.mv, s.most, s.at_⟩
  | none => if s.mv then (match s.next.find h x with
    | some k => ⟨s.now, s.next.dr (k : Int), s.mv, s.most, s.at_⟩
    | none => s) else s
def drE (s : Gr) (h x : Nat) : Int := match s.now.find h x with
  | some k => s.now.drE (k : Int)
  | none => if s.mv then (match s.next.find h x with
    | some k => s.next.drE (k : Int)
    | none => 7) else 7
theorem ok_dr {s : Gr} (hs : s.Ok) (h x : Nat) : (s.dr h x).Ok := by
  unfold dr
  split
  · exact ⟨Tb.ok_dr hs.now _, hs.next, hs.low, hs.top, fun e => by rw [show (⟨s.now.dr _, s.next, s.mv, s.most, s.at_⟩ : Gr).now = s.now.dr _ from rfl, Tb.dr_n]; exact hs.cur e⟩
  · split
    · rename_i e
      split
      · exact ⟨hs.now, fun _ => Tb.ok_dr (hs.next e) _, hs.low, hs.top, hs.cur⟩
      · exact hs
    · exact hs
/-- The place at the cursor moved. -/
def moved (s : Gr) : Gr := if s.now.isF (s.at_ : Int) then ⟨s.now.dr (s.at_ : Int), s.next.pt (s.now.eh s.at_) (s.now.ew s.at_), s.mv, s.most, s.at_⟩ else s
def on (s : Gr) : Gr := if s.at_ + 1 = s.now.n then ⟨s.next, s.next, false, s.most, s.at_ + 1⟩ else ⟨s.now, s.next, s.mv, s.most, s.at_ + 1⟩
def st (s : Gr) : Gr := if s.mv then s.moved.on else s
theorem ok_moved {s : Gr} (hs : s.Ok) (hm : s.mv = true) : s.moved.Ok := by
  unfold moved
  split
  · exact ⟨Tb.ok_dr hs.now _, fun e => Tb.ok_pt (hs.next e) (hs.now.hash _) (hs.now.what _), hs.low, hs.top, fun e => by rw [show (⟨s.now.dr _, s.next.pt _ _, s.mv, s.most, s.at_⟩ : Gr).now = s.now.dr _ from rfl, Tb.dr_n]; exact hs.cur e⟩
  · exact hs
theorem ok_on {s : Gr} (hs : s.Ok) (hm : s.mv = true) : s.on.Ok := by
  unfold on
  split
  · exact ⟨hs.next hm, fun e => (by cases e), hs.low, hs.top, fun e => (by cases e)⟩
  · rename_i e
    exact ⟨hs.now, hs.next, hs.low, hs.top, fun q => by have := hs.cur hm; show s.at_ + 1 < s.now.n; omega⟩
theorem moved_mv (s : Gr) : s.moved.mv = s.mv := by
  unfold moved
  split <;> rfl
theorem moved_at (s : Gr) : s.moved.at_ = s.at_ := by
  unfold moved
  split <;> rfl
theorem moved_n (s : Gr) : s.moved.now.n = s.now.n := by
  unfold moved
  split
  · exact Tb.dr_n _ _
  · rfl
def left (s : Gr) : Nat := if s.mv then s.now.n - s.at_ else 0
def places (s : Gr) : Nat := if s.mv then s.next.n else 0
def entries (s : Gr) : Nat := s.now.entries + if s.mv then s.next.entries else 0
def marks (s : Gr) : Nat := s.now.marks + if s.mv then s.next.marks else 0
def ents (s : Tb) (m : Nat) : List (Nat × Nat) := (s.allU m).map (·.2)
def all (s : Gr) : List (Nat × Nat) := ents s.now s.now.n ++ if s.mv then ents s.next s.next.n else []
end Gr
end Go.Proofs.YtimcdnbfdkpffaaGreat
/- Stage 14: a table that holds just the numbers of a set, each under a hash of it; a growing one; in pure words. -/
namespace Go.Proofs.YtimcdnbfdkpffaaGreat
set_option maxRecDepth 100000
namespace Tb
/-- It holds just the numbers of A, once each, x under the hash f x. -/
structure Sd (f : Nat → Nat) (s : Tb) (A : Nat → Bool) : Prop where
  ok : s.Ok
  own : ∀ k, k < s.n → s.ful k = true → s.ew k < 256 ∧ s.eh k = f (s.ew k) ∧ A (s.ew k) = true
  one : ∀ k j, k < s.n → j < s.n → s.ful k = true → s.ful j = true → s.ew k = s.ew j → k = j
  has : ∀ x, A x = true → ∃ k, k < s.n ∧ s.ful k = true ∧ s.ew k = x
  rch : ∀ k, k < s.n → s.ful k = true → s.Rch k
section
variable {f : Nat → Nat} {s : Tb} {A : Nat → Bool}
theorem sd_new {n : Nat} (h : 0 < n) (h' : n ≤ 262144) : Sd f (new n) (fun _ => false) := ⟨ok_new h h', fun _ _ h => (by cases h), fun _ _ _ _ h => (by cases h), fun _ h => (by cases h), fun _ _ h => (by cases h)⟩
theorem Sd.find_yes (h : Sd f s A) {x : Nat} (hm : A x = true) : ∃ k, s.find (f x) x = some k ∧ k < s.n ∧ s.ful k = true ∧ s.ew k = x ∧ s.eh k = f x := by
  obtain ⟨k, hk, hf, hx⟩ := h.has x hm
  have ho := h.own k hk hf
  exact ⟨k, find_one h.ok hk hf (by rw [ho.2.1, hx]) hx (h.rch k hk hf) fun j hj hf' he => h.one j k hj hk hf' hf (by rw [he, hx]), hk, hf, hx, by rw [ho.2.1, hx]⟩
theorem Sd.find_no (h : Sd f s A) {x g : Nat} (hm : A x = false) : s.find g x = none := by
  cases hq : s.find g x with
  | none => rfl
  | some k =>
    obtain ⟨h1, _, h3⟩ := find_ful hq
    have := (h.own k (find_lt h.ok hq) h1).2.2
    rw [h3, hm] at this
    cases this
/-- Of a table that has less entries than places, one is free. -/
theorem free_room (h : s.Ok) (g : Nat) (hc : s.entries < s.n) : ∃ i, s.free g = some i := by
  cases hf : s.free g with
  | some i => exact ⟨i, rfl⟩
  | none =>
    exfalso
    have key : ∀ m, m ≤ s.n → cntI s.ful m = m := by
      intro m
      induction m with
      | zero => exact fun _ => rfl
      | succ m ih =>
        intro hm
        have hfm : s.ful m = true := by
          obtain ⟨i, hi, e⟩ := st_onto h g (k := m) (by omega)
          have := fstI_none.1 hf i hi
          rw [e] at this
          simpa using this
        show cntI s.ful m + (if s.ful m then 1 else 0) = m + 1
        rw [ih (by omega), hfm]
        rfl
    have := key s.n (Nat.le_refl _)
    unfold entries at hc
    omega
/-- A number that is not there is put. -/
theorem Sd.put_new (h : Sd f s A) {x i : Nat} (hx : x < 256) (hfx : f x < 18446744073709551616) (hm : A x = false) (hf : s.free (f x) = some i) :
    Sd f (s.put (s.st (f x) i) (f x) x) (updB A x true) ∧ (s.put (s.st (f x) i) (f x) x).entries = s.entries + 1 ∧ (s.put (s.st (f x) i) (f x) x).marks ≤ s.marks := by
  obtain ⟨hi, hnf, hbf⟩ := fstI_some.1 hf
  have hnf : s.ful (s.st (f x) i) = false := by simpa using hnf
  have hbf : ∀ j, j < i → s.ful (s.st (f x) j) = true := fun j hj => by simpa using hbf j hj
  have hk : s.st (f x) i < s.n := st_lt h.ok _ _
  have hne : ∀ k, s.ful k = true → k ≠ s.st (f x) i := fun k hk e => by rw [e, hnf] at hk; cases hk
  generalize hK : s.st (f x) i = K at *
  have fu : ∀ k, (s.put K (f x) x).ful k = true → k = K ∨ (k ≠ K ∧ s.ful k = true) := fun k hk' => by
    by_cases e : k = K
    · exact .inl e
    · refine .inr ⟨e, ?_⟩
      have hk' : updB s.ful K true k = true := hk'
      rwa [updB_ne e] at hk'
  have ew0 : (s.put K (f x) x).ew K = x := updM_at ..
  have eh0 : (s.put K (f x) x).eh K = f x := updM_at ..
  have ew1 : ∀ k, k ≠ K → (s.put K (f x) x).ew k = s.ew k := fun k e => updM_ne e
  have eh1 : ∀ k, k ≠ K → (s.put K (f x) x).eh k = s.eh k := fun k e => updM_ne e
  have live : ∀ k, s.ful k = true ∨ s.mrk k = true → (s.put K (f x) x).ful k = true ∨ (s.put K (f x) x).mrk k = true := fun k hk' => by
    by_cases e : k = K
    · subst e
      exact .inl (updB_at ..)
    · show updB s.ful K true k = true ∨ updB s.mrk K false k = true
      rw [updB_ne e, updB_ne e]
      exact hk'
  have xnot : ∀ k, k < s.n → s.ful k = true → s.ew k ≠ x := fun k hk' hf' e => by
    have := (h.own k hk' hf').2.2
    rw [e, hm] at this
    cases this
  refine ⟨⟨ok_put h.ok K hfx (by omega), fun k hk' hf' => ?_, fun k j hk' hj hfk hfj e => ?_, fun y hy => ?_, fun k hk' hf' => ?_⟩, ?_, ?_⟩
  · rcases fu k hf' with rfl | ⟨e, hfk⟩
    · rw [ew0, eh0]
      exact ⟨hx, rfl, updB_at ..⟩
    · rw [ew1 k e, eh1 k e]
      have := h.own k hk' hfk
      exact ⟨this.1, this.2.1, by rw [updB_ne (xnot k hk' hfk)]; exact this.2.2⟩
  · rcases fu k hfk with rfl | ⟨e1, q1⟩
    · rcases fu j hfj with rfl | ⟨e2, q2⟩
      · rfl
      · rw [ew0, ew1 j e2] at e
        exact absurd e.symm (xnot j hj q2)
    · rcases fu j hfj with rfl | ⟨e2, q2⟩
      · rw [ew0, ew1 k e1] at e
        exact absurd e (xnot k hk' q1)
      · rw [ew1 k e1, ew1 j e2] at e
        exact h.one k j hk' hj q1 q2 e
  · by_cases e : y = x
    · exact ⟨K, hk, updB_at .., by rw [ew0, e]⟩
    · rw [updB_ne e] at hy
      obtain ⟨k, hk', hf', he⟩ := h.has y hy
      exact ⟨k, hk', by show updB s.ful K true k = true; rw [updB_ne (hne k hf')]; exact hf', by rw [ew1 k (hne k hf')]; exact he⟩
  · intro a ha e j hj
    rcases fu k hf' with rfl | ⟨e1, q1⟩
    · rw [eh0] at e ⊢
      rw [st_put] at e ⊢
      have : a = i := st_inj h.ok ha hi (e.trans hK.symm)
      exact live _ (.inl (hbf j (by omega)))
    · rw [eh1 k e1] at e ⊢
      rw [st_put] at e ⊢
      exact live _ (h.rch k hk' q1 a ha e j hj)
  · have h2 := cntI_upd s.ful K true (m := s.n) hk
    rw [hnf] at h2
    have h2 : cntI (updB s.ful K true) s.n + 0 = cntI s.ful s.n + 1 := h2
    show cntI (updB s.ful K true) s.n = cntI s.ful s.n + 1
    omega
  · have h2 := cntI_upd s.mrk K false (m := s.n) hk
    have h2 : cntI (updB s.mrk K false) s.n + _ = cntI s.mrk s.n + 0 := h2
    show cntI (updB s.mrk K false) s.n ≤ cntI s.mrk s.n
    omega
/-- One that is there is dropped. -/
theorem Sd.drop (h : Sd f s A) {x k : Nat} (hk : k < s.n) (hf : s.ful k = true) (hx : s.ew k = x) :
    Sd f (s.gone k) (updB A x false) ∧ (s.gone k).entries + 1 = s.entries ∧ (s.gone k).marks = s.marks + 1 := by
  have hnm : s.mrk k = false := by
    cases hm : s.mrk k with
    | false => rfl
    | true =>
      have := h.ok.one k hm
      rw [hf] at this
      cases this
  refine ⟨⟨ok_gone h.ok k, fun j hj hfj => ?_, fun j i hj hi hfj hfi e => ?_, fun y hy => ?_, fun j hj hfj => ?_⟩, ?_, ?_⟩
  · obtain ⟨e, q⟩ := gone_ful j hfj
    rw [gone_ew e, gone_eh e]
    have := h.own j hj q
    refine ⟨this.1, this.2.1, ?_⟩
    rw [updB_ne (fun e' => e (h.one j k hj hk q hf (by rw [e', hx])))]
    exact this.2.2
  · obtain ⟨e1, q1⟩ := gone_ful j hfj
    obtain ⟨e2, q2⟩ := gone_ful i hfi
    rw [gone_ew e1, gone_ew e2] at e
    exact h.one j i hj hi q1 q2 e
  · by_cases e : y = x
    · rw [e, updB_at] at hy
      cases hy
    · rw [updB_ne e] at hy
      obtain ⟨j, hj, hfj, he⟩ := h.has y hy
      have hjk : j ≠ k := fun q => e (by rw [← he, q, hx])
      exact ⟨j, hj, by show updB s.ful k false j = true; rw [updB_ne hjk]; exact hfj, by rw [gone_ew hjk]; exact he⟩
  · obtain ⟨e, q⟩ := gone_ful j hfj
    exact gone_rch e (h.rch j hj q)
  · have h2 := cntI_upd s.ful k false (m := s.n) hk
    rw [hf] at h2
    have h2 : cntI (updB s.ful k false) s.n + 1 = cntI s.ful s.n + 0 := h2
    show cntI (updB s.ful k false) s.n + 1 = cntI s.ful s.n
    omega
  · have h2 := cntI_upd s.mrk k true (m := s.n) hk
    rw [hnm] at h2
    have h2 : cntI (updB s.mrk k true) s.n + 0 = cntI s.mrk s.n + 1 := h2
    show cntI (updB s.mrk k true) s.n = cntI s.mrk s.n + 1
    omega
theorem Sd.same (h : Sd f s A) {B : Nat → Bool} (e : ∀ x, A x = B x) : Sd f s B := ⟨h.ok, fun k hk hf => by rw [← e]; exact h.own k hk hf, h.one, fun x hx => h.has x (by rw [e]; exact hx), h.rch⟩
theorem isF_nat {k : Nat} (hk : k < s.n) : s.isF (k : Int) = s.ful k := by
  unfold isF
  rw [decide_eq_true (show (0 : Int) ≤ (k : Int) by omega), decide_eq_true (show (k : Int) < (s.n : Int) by omega), Int.toNat_natCast]
  rfl
theorem dr_nat {k : Nat} (hk : k < s.n) (hf : s.ful k = true) : s.dr (k : Int) = s.gone k ∧ s.drE (k : Int) = 0 := by
  refine ⟨?_, ?_⟩
  · unfold dr
    rw [isF_nat hk, hf, Int.toNat_natCast]
    rfl
  · unfold drE
    rw [decide_eq_true (show (0 : Int) ≤ (k : Int) by omega), decide_eq_true (show (k : Int) < (s.n : Int) by omega), Int.toNat_natCast, hf]
    rfl
theorem pt_some {h x i : Nat} (hf : s.free h = some i) : s.pt h x = s.put (s.st h i) h x ∧ s.ptE h = 0 := by
  refine ⟨?_, ?_⟩
  · unfold pt
    rw [hf]
  · unfold ptE
    rw [hf]
end
end Tb
end Go.Proofs.YtimcdnbfdkpffaaGreat
/- Regions that draw their order, over any program: operations that turn nothing old (calls, loads, new memory) are each told once, by what they yield and what holds of it ever after; the last ones, which wait for all of those, are walked behind them. -/
namespace Go.Proofs.YtimcdnbfdkpffaaGreat
open Go Go.RowKit
section
variable {P : Program} {ops : Array Oper} {Q : Exit → Act → World → Prop} {C : World → Prop}
/-- What holds of a slot's value. -/
abbrev Fact := Value → World → Prop
/-- One operation: it yields a value of which r holds, and turns nothing old. -/
def grows (P : Program) (Q : Exit → Act → World → Prop) (C : World → Prop) (o : Oper) (a : Act) (w : World) (r : Fact) : Prop :=
  o.wp P a w (fun a' w' => ∃ v, a' = a.put o.dst v ∧ r v w' ∧ Below w.heap.size w w' ∧ C w') Q
/-- Each operation, in whatever frame tells of the slots that it looks at what is known of them. -/
def each (P : Program) (ops : Array Oper) (Q : Exit → Act → World → Prop) (C : World → Prop) : List Oper → List Fact → (Tmp → Fact) → Prop
  | [], _, _ => True
  | _ :: _, [], _ => False
  | o :: os, r :: rs, F => (∀ a w, C w → (∀ d, d ∈ o.looksAt ops → F d (a.tmps.getD d undef) w) → grows P Q C o a w r) ∧ each P ops Q C os rs (fun d => if o.dst = some d then r else F d)
/-- What stands behind them: any values of which the facts hold. -/
def behind (C : World → Prop) (K : Act → World → Prop) : List Oper → List Fact → Act → (World → Prop) → Prop
  | [], _, a, H => ∀ w, C w → H w → K a w
  | _ :: _, [], _, _ => False
  | o :: os, r :: rs, a, H => ∀ v, behind C K os rs (a.put o.dst v) (fun w => H w ∧ r v w)
/-- Does operation i wait for j? -/
def waits (ops : Array Oper) : Nat → Nat → Nat → Bool
  | 0, _, _ => false
  | fuel + 1, i, j => match ops[i]? with
    | none => false
    | some o => o.after.any (fun e => Region.binds .any e && e.on == j) || o.after.any fun e => Region.binds .any e && waits ops fuel e.on j
/-- The first k of n. -/
def firsts (n k : Nat) : Array Bool := ((List.range n).map fun i => decide (i < k)).toArray
/-- Head number i: it stands alone in its slot, waits for those behind whose slots it looks, and for none behind it. -/
def headB (ops : Array Oper) (m size i : Nat) : Bool :=
  match ops[i]? with
  | none => false
  | some o => o.guard.isNone && (match o.dst with
      | none => false
      | some d => decide (d < size) && (List.range m).all (fun j => j == i || (ops[j]?).all fun oj => oj.dst != some d)) &&
    o.after.all (fun e => !Region.binds .any e || decide (e.on < i)) &&
    (o.looksAt ops).all fun d => (List.range m).all fun j => (ops[j]?).all fun oj => oj.dst != some d || (decide (j < i) && o.after.any fun e => Region.binds .any e && e.on == j)
def growB (ops : Array Oper) (m size : Nat) : Bool :=
  decide (m ≤ ops.size) && (List.range m).all (headB ops m size) &&
  (List.range ops.size).all (fun i => decide (i < m) || ((List.range m).all (waits ops ops.size i) && Region.ready .any ops (firsts ops.size i) == [i])) &&
  (Region.ready .any ops (firsts ops.size ops.size)).isEmpty
theorem firsts_get {n k i : Nat} (d : Bool) : (firsts n k).getD i d = if i < n then decide (i < k) else d := by
  unfold firsts
  by_cases h : i < n
  · simp [h]
  · simp [h]
theorem firsts_set {n k : Nat} (h : k < n) : (firsts n k).setIfInBounds k true = firsts n (k + 1) := by
  apply Array.ext_getElem?
  intro j
  by_cases hj : j < n
  · by_cases e : k = j
    · subst e
      simp [firsts, h]
    · rw [Array.getElem?_setIfInBounds_ne e]
      have : decide (j < k) = decide (j < k + 1) := by
        by_cases q : j < k
        · simp [q]; omega
        · simp [q]; omega
      simp [firsts, hj, this]
  · have e : k ≠ j := by omega
    rw [Array.getElem?_setIfInBounds_ne e]
    simp [firsts, hj]
def closed (ops : Array Oper) (listed : Array Bool) : Prop := ∀ k o, ops[k]? = some o → listed.getD k false = true → ∀ e ∈ o.after, Region.binds .any e = true → listed.getD e.on false = true
theorem waits_spec {listed : Array Bool} (hc : closed ops listed) : ∀ fuel i j, (∀ o, ops[i]? = some o → ∀ e ∈ o.after, Region.binds .any e = true → listed.getD e.on false = true) → waits ops fuel i j = true → listed.getD j false = true
  | 0, _, _, _, h => by simp [waits] at h
  | fuel + 1, i, j, hi, h => by
    unfold waits at h
    cases ho : ops[i]? with
    | none => simp [ho] at h
    | some o =>
      simp only [ho, Bool.or_eq_true, Array.any_eq_true', Bool.and_eq_true, beq_iff_eq] at h
      rcases h with ⟨e, he, hb, h⟩ | ⟨e, he, hb, h⟩
      · rw [← h]; exact hi o ho e he hb
      · exact waits_spec hc fuel e.on j (fun o' ho' => hc e.on o' ho' (hi o ho e he hb)) h
/-- What is known behind some of the heads. -/
structure Told (ops : Array Oper) (m : Nat) (C : World → Prop) (R : Nat → Fact) (a0 : Act) (listed : Array Bool) (a : Act) (w : World) : Prop where
  size : listed.size = ops.size
  tail : ∀ i, m ≤ i → listed.getD i false = false
  closed : closed ops listed
  cls : C w
  asize : a.tmps.size = a0.tmps.size
  defers : a.defers = a0.defers
  told : ∀ k o d, k < m → ops[k]? = some o → listed.getD k false = true → o.dst = some d → R k (a.tmps.getD d undef) w
  rest : ∀ d, (∀ k o, k < m → ops[k]? = some o → listed.getD k false = true → o.dst ≠ some d) → a.tmps[d]? = a0.tmps[d]?
/-- What is known of a slot, at operation k. -/
def factAt (ops : Array Oper) (R : Nat → Fact) (a0 : Act) : Nat → Tmp → Fact
  | 0, d => fun v _ => v = a0.tmps.getD d undef
  | k + 1, d => if (ops[k]?).bind (·.dst) = some d then R k else factAt ops R a0 k d
theorem put_size (a : Act) (d : Option Tmp) (v : Value) : (a.put d v).tmps.size = a.tmps.size := by cases d <;> simp [Act.put]
theorem put_defers (a : Act) (d : Option Tmp) (v : Value) : (a.put d v).defers = a.defers := by cases d <;> rfl
theorem put_same {a : Act} {d : Tmp} (v : Value) (h : d < a.tmps.size) : (a.put (some d) v).tmps[d]? = some v := by simp [Act.put, h]
theorem put_other {a : Act} {d t : Tmp} (v : Value) (h : d ≠ t) : (a.put (some d) v).tmps[t]? = a.tmps[t]? := by simp [Act.put, Array.getElem?_setIfInBounds_ne h]
theorem getD_congr {x y : Array Value} {d : Tmp} (h : x[d]? = y[d]?) : x.getD d undef = y.getD d undef := by
  simp [h]
theorem headB_spec {m size i : Nat} {o : Oper} (ho : ops[i]? = some o) (h : headB ops m size i = true) :
    o.guard = none ∧ (∃ d, o.dst = some d ∧ d < size ∧ ∀ j oj, j < m → j ≠ i → ops[j]? = some oj → oj.dst ≠ some d) ∧ (∀ e ∈ o.after, Region.binds .any e = true → e.on < i) ∧
    ∀ d, d ∈ o.looksAt ops → ∀ j oj, j < m → ops[j]? = some oj → oj.dst = some d → j < i ∧ ∃ e ∈ o.after, Region.binds .any e = true ∧ e.on = j := by
  unfold headB at h
  simp only [ho, Bool.and_eq_true] at h
  obtain ⟨⟨⟨h1, h2⟩, h3⟩, h4⟩ := h
  refine ⟨by simpa using h1, ?_, ?_, ?_⟩
  · cases hd : o.dst with
    | none => simp [hd] at h2
    | some d =>
      simp only [hd, Bool.and_eq_true, decide_eq_true_eq, List.all_eq_true, List.mem_range, Bool.or_eq_true, beq_iff_eq] at h2
      refine ⟨d, rfl, h2.1, fun j oj hj hne hoj => ?_⟩
      have := (h2.2 j hj).resolve_left hne
      simpa [hoj] using this
  · intro e he hb
    rw [Array.all_eq_true'] at h3
    have := h3 e he
    simpa [hb] using this
  · intro d hd j oj hj hoj hdj
    rw [List.all_eq_true] at h4
    have := h4 d hd
    rw [List.all_eq_true] at this
    have := this j (List.mem_range.2 hj)
    simp only [hoj, Option.all_some, hdj, bne_self_eq_false, Bool.false_or, Bool.and_eq_true, decide_eq_true_eq, Array.any_eq_true', beq_iff_eq] at this
    obtain ⟨h5, e, he, hb, hon⟩ := this
    exact ⟨h5, e, he, hb, hon⟩
theorem factAt_told {m : Nat} {R : Nat → Fact} {a0 a : Act} {listed : Array Bool} {w : World} (hT : Told ops m C R a0 listed a w) {d : Tmp}
    (hd : ∀ j oj, j < m → ops[j]? = some oj → oj.dst = some d → listed.getD j false = true) : ∀ k, k ≤ m → (∀ j oj, j < m → k ≤ j → ops[j]? = some oj → oj.dst ≠ some d) → factAt ops R a0 k d (a.tmps.getD d undef) w
  | 0, _, hk => by
    show a.tmps.getD d undef = a0.tmps.getD d undef
    exact getD_congr (hT.rest d fun k o hkm ho _ => hk k o hkm (Nat.zero_le _) ho)
  | k + 1, hm, hk => by
    unfold factAt
    split
    · rename_i h
      cases ho : ops[k]? with
      | none => simp [ho] at h
      | some o =>
        simp [ho] at h
        exact hT.told k o d hm ho (hd k o hm ho h) h
    · rename_i h
      exact factAt_told hT hd k (by omega) fun j oj hj hkj hoj => by
        by_cases e : j = k
        · subst e; intro q; apply h; simp [hoj, q]
        · exact hk j oj hj (by omega) hoj
/-- All heads are listed. -/
theorem told_all {m : Nat} {R : Nat → Fact} {a0 a : Act} {listed : Array Bool} {w : World} (hT : Told ops m C R a0 listed a w) (_ : m ≤ ops.size) (h : ∀ i, i < m → listed.getD i false = true) : listed = firsts ops.size m := by
  apply Array.ext_getElem?
  intro j
  by_cases hj : j < ops.size
  · have hs : j < listed.size := by rw [hT.size]; exact hj
    have e : listed[j]? = some (listed.getD j false) := by simp [hs]
    rw [e]
    by_cases q : j < m
    · rw [h j q]
      simp [firsts, hj, q]
    · rw [hT.tail j (by omega)]
      simp [firsts, hj, q]
  · rw [Array.getElem?_eq_none (by rw [hT.size]; omega)]
    simp [firsts, hj]
/-- Whatever order is picked: the heads first, in any order, then what waits for them. -/
theorem wpAny_heads {m : Nat} {R : Nat → Fact} {a0 : Act} (hB : growB ops m a0.tmps.size = true) (hst : ∀ k v w w', R k v w → Below w.heap.size w w' → R k v w')
    (hO : ∀ k o, k < m → ops[k]? = some o → ∀ a w, C w → (∀ d, d ∈ o.looksAt ops → factAt ops R a0 k d (a.tmps.getD d undef) w) → grows P Q C o a w (R k))
    (hF : ∀ a w, Told ops m C R a0 (firsts ops.size m) a w → wpAny P .any ops Q (ops.size - m) (firsts ops.size m) a w) :
    ∀ (fuel : Nat) (listed : Array Bool) (a : Act) (w : World), Told ops m C R a0 listed a w → fuel + (listed.toList.countP (· == true)) = ops.size → wpAny P .any ops Q fuel listed a w := by
  unfold growB at hB
  simp only [Bool.and_eq_true, decide_eq_true_eq, List.all_eq_true, List.mem_range, Bool.or_eq_true, beq_iff_eq] at hB
  obtain ⟨⟨⟨hm, hH⟩, hW⟩, hE⟩ := hB
  intro fuel
  induction fuel with
  | zero =>
    intro listed a w hT hc
    have hall : ∀ i, i < ops.size → listed.getD i false = true := by
      intro i hi
      have h1 : listed.toList.countP (· == true) = listed.toList.length := by rw [Array.length_toList, hT.size]; omega
      rw [List.countP_eq_length] at h1
      have hs : i < listed.size := by rw [hT.size]; exact hi
      have := h1 listed[i] (by simp)
      simp at this
      simp [hs, this]
    have hmn : m = ops.size := by
      rcases Nat.lt_or_ge m ops.size with h | h
      · have := hT.tail m (Nat.le_refl _)
        rw [hall m h] at this
        cases this
      · omega
    have e := told_all hT hm fun i hi => hall i (by omega)
    subst e
    have := hF a w hT
    rwa [show ops.size - m = 0 by omega] at this
  | succ fuel ih =>
    intro listed a w hT hc
    by_cases hall : ∀ i, i < m → listed.getD i false = true
    · have e := told_all hT hm hall
      have hcount : (firsts ops.size m).toList.countP (· == true) = m := by
        unfold firsts
        have key : ∀ n k, k ≤ n → ((List.range n).map fun i => decide (i < k)).countP (· == true) = k := by
          intro n
          induction n with
          | zero => intro k hk; simp; omega
          | succ n ihn =>
            intro k hk
            rw [List.range_succ, List.map_append, List.countP_append]
            by_cases q : k ≤ n
            · rw [ihn k q]
              simp
              omega
            · have : k = n + 1 := by omega
              subst this
              have e2 : (List.range n).map (fun i => decide (i < n + 1)) = (List.range n).map (fun i => decide (i < n)) := List.map_congr_left fun i hi => by
                simp at hi
                simp [hi]
                omega
              rw [e2, ihn n (Nat.le_refl _)]
              simp
        exact key _ _ hm
      subst e
      rw [hcount] at hc
      have := hF a w hT
      rwa [show ops.size - m = fuel + 1 by omega] at this
    · -- some head is left: the first one of them may come up
      obtain ⟨i0, hi0, hun0, hleast⟩ : ∃ i, i < m ∧ listed.getD i false = false ∧ ∀ j, j < i → listed.getD j false = true := by
        have : ∃ i, i < m ∧ listed.getD i false = false := by
          apply Classical.byContradiction
          intro hno
          exact hall fun i hi => by
            cases hq : listed.getD i false with
            | true => rfl
            | false => exact absurd ⟨i, hi, hq⟩ hno
        clear hall
        obtain ⟨i, hi, hq⟩ := this
        induction i using Nat.strongRecOn with
        | ind i ihi =>
          by_cases hex : ∃ j, j < i ∧ listed.getD j false = false
          · obtain ⟨j, hj, hjq⟩ := hex
            exact ihi j hj (by omega) hjq
          · refine ⟨i, hi, hq, fun j hj => ?_⟩
            cases hjq : listed.getD j false with
            | true => rfl
            | false => exact absurd ⟨j, hj, hjq⟩ hex
      have hflip : ∀ i, i < ops.size → ∀ d d', listed.getD i d = listed.getD i d' := fun i hi d d' => by
        have hs : i < listed.size := by rw [hT.size]; exact hi
        simp [hs]
      have hready0 : i0 ∈ Region.ready .any ops listed := by
        have ho : ops[i0]? = some ops[i0] := Array.getElem?_eq_getElem (by omega)
        refine mem_ready.2 ⟨by rw [hflip i0 (by omega) true false]; exact hun0, _, ho, fun e he hb => hleast _ ?_⟩
        exact (headB_spec ho (hH i0 hi0)).2.2.1 e he hb
      refine ⟨fun h => (by rw [h] at hready0; cases hready0), fun i hi => ?_⟩
      obtain ⟨hun, o, ho, hafter⟩ := mem_ready.1 hi
      have hin : i < ops.size := (Array.getElem?_eq_some_iff.1 ho).1
      have him : i < m := by
        rcases Nat.lt_or_ge i m with h | h
        · exact h
        · have hw := ((hW i hin).resolve_left (by omega)).1 i0 hi0
          have := waits_spec hT.closed _ i i0 (fun o' ho' e he hb => by rw [ho] at ho'; injection ho' with ho'; subst ho'; exact hafter e he hb) hw
          rw [this] at hun0
          cases hun0
      obtain ⟨hg, ⟨d, hd, hds, hdist⟩, hlow, hlook⟩ := headB_spec ho (hH i him)
      have hob := hO i o him ho a w hT.cls (fun t ht => factAt_told hT (fun j oj hj hoj hdj => by
          obtain ⟨_, e, he, hb, hon⟩ := hlook t ht j oj hj hoj hdj
          rw [← hon]; exact hafter e he hb) i (by omega) (fun j oj hj hij hoj hdj => by
          obtain ⟨hlt, _⟩ := hlook t ht j oj hj hoj hdj
          omega))
      unfold wpOp
      simp only [ho, Region.wanted, hg, if_true]
      refine .inl (Oper.wp_mono ?_ hob)
      rintro a' w' ⟨v, rfl, hr, hbl, hcl⟩
      have hs : i < listed.size := by rw [hT.size]; exact hin
      have hset : ∀ j, (listed.setIfInBounds i true).getD j false = if j = i then true else listed.getD j false := fun j => by
        by_cases e : j = i
        · subst e; simp [hs]
        · rw [getD_set_ne false (Ne.symm e), if_neg e]
      have hunF : listed.getD i false = false := by rw [hflip i hin false true]; exact hun
      refine ih _ _ _ ?_ ?_
      · constructor
        · simp [hT.size]
        · intro j hj
          rw [hset, if_neg (by omega)]
          exact hT.tail j hj
        · intro k ok hok hk e he hb
          rw [hset] at hk ⊢
          by_cases hki : k = i
          · subst hki
            rw [ho] at hok; injection hok with hok; subst hok
            split
            · rfl
            · exact hafter e he hb
          · rw [if_neg hki] at hk
            split
            · rfl
            · exact hT.closed k ok hok hk e he hb
        · exact hcl
        · rw [put_size, hT.asize]
        · rw [put_defers, hT.defers]
        · intro k ok dk hk hok hkl hdk
          rw [hset] at hkl
          by_cases hki : k = i
          · subst hki
            rw [ho] at hok; injection hok with hok; subst hok
            rw [hd] at hdk; injection hdk with hdk; subst hdk
            have hv : (a.put o.dst v).tmps.getD d undef = v := by
              rw [hd]
              have := put_same (a := a) (d := d) v (by rw [hT.asize]; exact hds)
              simp [this]
            rw [hv]
            exact hr
          · rw [if_neg hki] at hkl
            have hne : d ≠ dk := fun e => by
              subst e
              exact hdist k ok hk hki hok hdk
            have hv : (a.put o.dst v).tmps.getD dk undef = a.tmps.getD dk undef := by
              rw [hd]
              exact getD_congr (put_other v hne)
            rw [hv]
            exact hst k _ w w' (hT.told k ok dk hk hok hkl hdk) hbl
        · intro t ht
          have hne : d ≠ t := fun e => by
            subst e
            exact ht i o him ho (by rw [hset, if_pos rfl]) hd
          rw [hd, put_other v hne]
          exact hT.rest t fun k ok hk hok hkl => ht k ok hk hok (by rw [hset]; split <;> first | rfl | exact hkl)
      · have hcnt : (listed.setIfInBounds i true).toList.countP (· == true) = listed.toList.countP (· == true) + 1 := by
          rw [Array.toList_setIfInBounds, List.countP_set (by simpa using hs)]
          have hl : listed.toList[i]'(by simpa using hs) = false := by
            have : listed[i]'hs = false := by simpa [hs] using hunF
            simpa using this
          simp [hl]
        rw [hcnt]
        omega
theorem each_at {R : Nat → Fact} {a0 : Act} : ∀ (l : List Oper) (rs : List Fact) (k0 : Nat) (F : Tmp → Fact), (∀ j, j < l.length → l[j]? = ops[k0 + j]?) → F = factAt ops R a0 k0 → (∀ j r, rs[j]? = some r → R (k0 + j) = r) →
    each P ops Q C l rs F → ∀ j o, j < l.length → ops[k0 + j]? = some o → ∀ a w, C w → (∀ d, d ∈ o.looksAt ops → factAt ops R a0 (k0 + j) d (a.tmps.getD d undef) w) → grows P Q C o a w (R (k0 + j))
  | [], _, _, _, _, _, _, _, _, _, hj, _, _, _, _, _ => by simp at hj
  | _ :: _, [], _, _, _, _, _, h, _, _, _, _, _, _, _, _ => h.elim
  | o :: l, r :: rs, k0, F, hl, hF, hR, h, 0, o', _, ho, a, w, hC, hd => by
    have e := hl 0 (by simp)
    simp only [List.getElem?_cons_zero, Nat.add_zero] at e ho
    rw [← e] at ho
    injection ho with ho
    subst ho
    rw [hR 0 r rfl]
    exact h.1 a w hC (by rw [hF]; exact hd)
  | o :: l, r :: rs, k0, F, hl, hF, hR, h, j + 1, o', hj, ho, a, w, hC, hd => by
    have e0 := hl 0 (by simp)
    simp only [List.getElem?_cons_zero, Nat.add_zero] at e0
    have ek : k0 + (j + 1) = k0 + 1 + j := by omega
    rw [ek] at ho hd ⊢
    refine each_at l rs (k0 + 1) _ (fun i hi => ?_) ?_ (fun i r' hr' => ?_) h.2 j o' (by simpa using hj) ho a w hC hd
    · have := hl (i + 1) (by simpa using hi)
      simpa [Nat.add_assoc, Nat.add_comm 1 i] using this
    · funext d
      have hr0 : R k0 = r := hR 0 r rfl
      unfold factAt
      rw [← e0, hr0, hF]
      simp only [Option.bind_some]
    · have := hR (i + 1) r' hr'
      rwa [show k0 + (i + 1) = k0 + 1 + i by omega] at this
theorem behind_at {K : Act → World → Prop} {m : Nat} {R : Nat → Fact} {a0 a : Act} {w : World} (hT : Told ops m C R a0 (firsts ops.size m) a w) (hm : m ≤ ops.size) (hd : ∀ k o, k < m → ops[k]? = some o → ∃ d, o.dst = some d ∧ d < a0.tmps.size) :
    ∀ (l : List Oper) (rs : List Fact) (k0 : Nat) (b : Act) (H : World → Prop), k0 + l.length = m → (∀ j, j < l.length → l[j]? = ops[k0 + j]?) → (∀ j r, rs[j]? = some r → R (k0 + j) = r) →
    b.tmps.size = a0.tmps.size → b.defers = a0.defers → (∀ t, (∀ k o, k0 ≤ k → k < m → ops[k]? = some o → o.dst ≠ some t) → b.tmps[t]? = a.tmps[t]?) → H w → behind C K l rs b H → K a w
  | [], _, k0, b, H, hk, _, _, hs, hdf, ht, hH, h => by
    have e : b = a := by
      obtain ⟨bt, bd⟩ := b
      obtain ⟨at_, ad⟩ := a
      have e1 : bt = at_ := Array.ext_getElem? fun t => ht t fun k o h1 h2 => by simp at hk; omega
      have e2 : bd = ad := hdf.trans hT.defers.symm
      rw [e1, e2]
    subst e
    exact h w hT.cls hH
  | _ :: _, [], _, _, _, _, _, _, _, _, _, _, h => h.elim
  | o :: l, r :: rs, k0, b, H, hk, hl, hR, hs, hdf, ht, hH, h => by
    have e0 := hl 0 (by simp)
    simp only [List.getElem?_cons_zero, Nat.add_zero] at e0
    have hkm : k0 < m := by simp at hk; omega
    obtain ⟨d, hdd, hds⟩ := hd k0 o hkm e0.symm
    have htold := hT.told k0 o d hkm e0.symm (by rw [firsts_get, if_pos (by omega)]; simp [hkm]) hdd
    have hr0 : R k0 = r := hR 0 r rfl
    rw [hr0] at htold
    refine behind_at hT hm hd l rs (k0 + 1) _ _ (by simp at hk; omega) (fun i hi => ?_) (fun i r' hr' => ?_) ?_ ?_ (fun t htt => ?_) ⟨hH, htold⟩ (h (a.tmps.getD d undef))
    · have := hl (i + 1) (by simpa using hi)
      simpa [Nat.add_assoc, Nat.add_comm 1 i] using this
    · have := hR (i + 1) r' hr'
      rwa [show k0 + (i + 1) = k0 + 1 + i by omega] at this
    · rw [put_size, hs]
    · rw [put_defers, hdf]
    · by_cases e : d = t
      · subst e
        rw [hdd, put_same _ (by rw [hs]; exact hds)]
        have : d < a.tmps.size := by rw [hT.asize]; exact hds
        simp [this]
      · rw [hdd, put_other _ e]
        refine ht t fun k ok h1 h2 h3 h4 => ?_
        by_cases ek : k = k0
        · subst ek
          rw [← e0] at h3
          injection h3 with h3
          subst h3
          rw [hdd] at h4
          injection h4 with h4
          exact e h4
        · exact htt k ok (by omega) h2 h3 h4
theorem wpAny_chain : ∀ (l : List Oper) (m : Nat), m + l.length = ops.size → (∀ j, l[j]? = ops[m + j]?) → (∀ i, m ≤ i → i < ops.size → Region.ready .any ops (firsts ops.size i) = [i]) → Region.ready .any ops (firsts ops.size ops.size) = [] →
    ∀ a w, wpList P ops Q l a w → wpAny P .any ops Q l.length (firsts ops.size m) a w
  | [], m, hm, _, _, he, a, w, h => by
    simp at hm
    subst hm
    exact ⟨he, h⟩
  | o :: l, m, hm, hl, hr, he, a, w, h => by
    have hlt : m < ops.size := by simp at hm; omega
    refine ⟨fun h0 => (by rw [hr m (Nat.le_refl _) hlt] at h0; cases h0), fun i hi => ?_⟩
    rw [hr m (Nat.le_refl _) hlt] at hi
    simp at hi
    subst hi
    have e0 := hl 0
    simp only [List.getElem?_cons_zero, Nat.add_zero] at e0
    rw [firsts_set hlt]
    unfold wpOp
    rw [← e0]
    have next : ∀ a' w', wpList P ops Q l a' w' → wpAny P .any ops Q l.length (firsts ops.size (i + 1)) a' w' := fun a' w' h' =>
      wpAny_chain l (i + 1) (by simp at hm; omega) (fun j => by have := hl (j + 1); simpa [Nat.add_assoc, Nat.add_comm 1 j] using this) (fun k hk => hr k (by omega)) he a' w' h'
    unfold wpList at h
    show if Region.wanted o (yielded ops a.tmps) then _ else _
    split
    · rename_i hw
      rw [if_pos hw] at h
      exact h.imp (Oper.wp_mono next) id
    · rename_i hw
      rw [if_neg hw] at h
      exact next _ _ h
theorem slot_eq {a : Act} {d : Tmp} {v : Value} (h : a.tmps.getD d undef = v) : a.tmps[d]?.getD undef = v := by simpa using h
/-- A fact that stays where nothing old is turned. -/
def Stb (r : Fact) : Prop := ∀ v w w', r v w → Below w.heap.size w w' → r v w'
def stbs : List Fact → Prop
  | [] => True
  | r :: rs => Stb r ∧ stbs rs
theorem stbs_mem : ∀ {rs : List Fact}, stbs rs → ∀ r, r ∈ rs → Stb r
  | [], _, _, h => by simp at h
  | _ :: _, hs, r, h => by
    rcases List.mem_cons.1 h with rfl | h
    · exact hs.1
    · exact stbs_mem hs.2 r h
/-- The value itself. -/
def val (x : Value) : Fact := fun v _ => v = x
theorem stb_val (x : Value) : Stb (val x) := fun _ _ _ h _ => h
theorem each_nil {rs : List Fact} {F : Tmp → Fact} : each P ops Q C [] rs F := trivial
theorem each_cons {o : Oper} {os : List Oper} {r : Fact} {rs : List Fact} {F : Tmp → Fact} (h : ∀ a w, C w → (∀ d, d ∈ o.looksAt ops → F d (a.tmps.getD d undef) w) → grows P Q C o a w r) (hr : each P ops Q C os rs (fun d => if o.dst = some d then r else F d)) :
    each P ops Q C (o :: os) (r :: rs) F := ⟨h, hr⟩
theorem grows_value {o : Oper} {a : Act} {w : World} {r : Fact} (v : Value) (hC : C w) (h : (execOp a.eval o).run P w = .ok (.value v) w) (hr : r v w) : grows P Q C o a w r := by
  unfold grows Oper.wp
  rw [h]
  exact ⟨v, rfl, hr, Below.refl _ _, hC⟩
theorem grows_new {o : Oper} {a : Act} {w w' : World} {r : Fact} (v : Value) (h : (execOp a.eval o).run P w = .ok (.value v) w') (hr : r v w') (hb : Below w.heap.size w w') (hC : C w') : grows P Q C o a w r := by
  unfold grows Oper.wp
  rw [h]
  exact ⟨v, rfl, hr, hb, hC⟩
theorem grows_call {o : Oper} {a : Act} {w : World} {r : Fact} {fn : FuncId} {args : Array Value} (h : (execOp a.eval o).run P w = .ok (.enter fn args) w) (hc : Calls P fn args w fun e w' => ∃ v, e = .returned v ∧ r v w' ∧ Below w.heap.size w w' ∧ C w') : grows P Q C o a w r := by
  unfold grows Oper.wp
  rw [h]
  show Calls P fn args w _
  refine hc.mono ?_
  rintro e w' ⟨v, rfl, h1, h2, h3⟩
  exact ⟨v, rfl, h1, h2, h3⟩
theorem behind_nil {K : Act → World → Prop} {rs : List Fact} {a : Act} {H : World → Prop} (h : ∀ w, C w → H w → K a w) : behind C K [] rs a H := by
  cases rs <;> exact h
theorem behind_cons {K : Act → World → Prop} {o : Oper} {os : List Oper} {r : Fact} {rs : List Fact} {a : Act} {H : World → Prop} (h : ∀ v, behind C K os rs (a.put o.dst v) (fun w => H w ∧ r v w)) : behind C K (o :: os) (r :: rs) a H := h
theorem behind_mono {K : Act → World → Prop} : ∀ (os : List Oper) (rs : List Fact) (a : Act) (H H' : World → Prop), (∀ w, H' w → H w) → behind C K os rs a H → behind C K os rs a H'
  | [], [], _, _, _, hH, h => fun w hC hw => h w hC (hH w hw)
  | [], _ :: _, _, _, _, hH, h => fun w hC hw => h w hC (hH w hw)
  | _ :: _, [], _, _, _, _, h => h.elim
  | _ :: os, _ :: rs, _, _, _, hH, h => fun v => behind_mono os rs _ _ _ (fun w hw => ⟨hH w hw.1, hw.2⟩) (h v)
theorem behind_never {K : Act → World → Prop} : ∀ (os : List Oper) (rs : List Fact) (a : Act) (H : World → Prop), os.length = rs.length → (∀ w, ¬ H w) → behind C K os rs a H
  | [], [], _, _, _, hH => fun w _ hw => absurd hw (hH w)
  | [], _ :: _, _, _, h, _ => by simp at h
  | _ :: _, [], _, _, h, _ => by simp at h
  | o :: os, r :: rs, a, H, hl, hH => fun v => behind_never os rs _ _ (by simpa using hl) (fun w hw => hH w hw.1)
/-- A slot whose value is known. -/
theorem behind_val {K : Act → World → Prop} {o : Oper} {os : List Oper} {x : Value} {rs : List Fact} {a : Act} {H : World → Prop} (hl : os.length = rs.length) (h : behind C K os rs (a.put o.dst x) H) : behind C K (o :: os) (val x :: rs) a H := fun v => by
  by_cases e : v = x
  · subst e
    exact behind_mono os rs _ _ _ (fun w hw => hw.1) h
  · exact behind_never os rs _ _ hl (fun w hw => e hw.2)
/-- **A region that draws its order**: its first m operations turn nothing old, each is told once; the others wait for all of them. -/
theorem wp_region_grow {id : Nat} {a0 : Act} {w0 : World} (m N : Nat) (rs : List Fact) (hm : P.follows .mixedOrders = true) (hsz : a0.tmps.size = N) (hB : growB ops m N = true) (_ : rs.length = m)
    (hst : stbs rs) (hC : C w0.drew)
    (hO : each P ops Q C (ops.toList.take m) rs (fun d v _ => v = a0.tmps.getD d undef))
    (hF : behind C (fun a w => wpList P ops Q (ops.toList.drop m) a w) (ops.toList.take m) rs a0 (fun _ => True)) : (Code.region id ops true).wp P Q a0 w0 := by
  subst hsz
  have hB' := hB
  unfold growB at hB
  simp only [Bool.and_eq_true, decide_eq_true_eq, List.all_eq_true, List.mem_range, Bool.or_eq_true, beq_iff_eq] at hB
  obtain ⟨⟨⟨hms, hH⟩, hW⟩, hE⟩ := hB
  have hnon : ∀ (d : Bool) i, (Array.replicate ops.size false).getD i d = if i < ops.size then false else d := fun d i => by
    by_cases h : i < ops.size
    · simp [h]
    · simp [h]
  have hR : ∀ j r, rs[j]? = some r → ((rs[0 + j]?).getD fun _ _ => True) = r := fun j r h => by rw [Nat.zero_add, h]; rfl
  have hlt : (ops.toList.take m).length = m := by rw [List.length_take, Array.length_toList]; omega
  have htk : ∀ j, j < (ops.toList.take m).length → (ops.toList.take m)[j]? = ops[0 + j]? := fun j hj => by
    rw [hlt] at hj
    rw [List.getElem?_take, if_pos hj, Nat.zero_add, Array.getElem?_toList]
  refine wp_region_any hm (wpAny_heads (C := C) (m := m) (R := fun k => (rs[k]?).getD fun _ _ => True) (a0 := a0) hB' ?_ ?_ ?_ _ _ _ _ ?_ ?_)
  · intro k v w w' h hb
    cases hr : rs[k]? with
    | none => simp
    | some r =>
      simp only [hr, Option.getD_some] at h ⊢
      exact stbs_mem hst r (List.mem_of_getElem? hr) v w w' h hb
  · intro k o hk ho a w hCw hd
    have e := each_at (R := fun k => (rs[k]?).getD fun _ _ => True) (a0 := a0) _ rs 0 _ htk (by funext d; rfl) hR hO k o (by rw [hlt]; exact hk) (by rw [Nat.zero_add]; exact ho) a w hCw (by rw [Nat.zero_add]; exact hd)
    rwa [Nat.zero_add] at e
  · intro a w hT
    have hdd : ∀ k o, k < m → ops[k]? = some o → ∃ d, o.dst = some d ∧ d < a0.tmps.size := fun k o hk ho => by
      obtain ⟨_, ⟨d, h1, h2, _⟩, _⟩ := headB_spec ho (hH k hk)
      exact ⟨d, h1, h2⟩
    have hl := behind_at hT hms hdd (ops.toList.take m) rs 0 a0 (fun _ => True) (by rw [hlt]; omega) htk hR rfl rfl (fun t ht => (hT.rest t fun k o hk ho _ => ht k o (Nat.zero_le _) hk ho).symm) trivial hF
    have hdl : (ops.toList.drop m).length = ops.size - m := by rw [List.length_drop, Array.length_toList]
    have := wpAny_chain (P := P) (Q := Q) (ops.toList.drop m) m (by rw [hdl]; omega) (fun j => by rw [List.getElem?_drop, Array.getElem?_toList]) (fun i h1 h2 => ((hW i h2).resolve_left (by omega)).2) (by simpa using hE) a w hl
    rwa [hdl] at this
  · constructor
    · simp
    · intro i _
      rw [hnon]
      split <;> rfl
    · intro k o _ hk
      rw [hnon] at hk
      split at hk <;> cases hk
    · exact hC
    · rfl
    · rfl
    · intro k o d _ _ hk
      rw [hnon] at hk
      split at hk <;> cases hk
    · intro d _; rfl
  · have : (Array.replicate ops.size false).toList.countP (· == true) = 0 := by simp
    rw [this]; rfl
end
end Go.Proofs.YtimcdnbfdkpffaaGreat
/- Blocks of the call's own, and what walks want beside, over any program. -/
namespace Go.Proofs.YtimcdnbfdkpffaaGreat
open Go.RowKit
theorem lt_heap {w : World} {g : Nat} {o : Obj} (h : w.heap[g]? = some o) : g < w.heap.size := by
  rcases Nat.lt_or_ge g w.heap.size with hlt | hge
  · exact hlt
  · rw [Array.getElem?_eq_none hge] at h; cases h
theorem blk_cell {w : World} {g : Nat} {cs : Array Value} {t : TypeId} (h : w.heap[g]? = some (.cells cs t (0, 0))) (i : Nat) : w.cell? ⟨g, i, none⟩ = cs[i]? := cell_of_row w g i cs t (0, 0) h
theorem blk_free {w : World} {g : Nat} {cs : Array Value} {t : TypeId} (h : w.heap[g]? = some (.cells cs t (0, 0))) (i : Nat) : w.frozen? ⟨g, i, none⟩ = false := by simp [World.frozen?, h]
theorem blk_set {w : World} {g : Nat} {cs : Array Value} {t : TypeId} (h : w.heap[g]? = some (.cells cs t (0, 0))) (i : Nat) (v : Value) : (w.setCell ⟨g, i, none⟩ v).heap[g]? = some (.cells (cs.setIfInBounds i v) t (0, 0)) := by
  simp [World.setCell, Array.getElem?_modify, h]
theorem blk_far {w : World} {g : Nat} {o : Obj} (h : w.heap[g]? = some o) {p : Addr} (hp : g ≠ p.block) (v : Value) : (w.setCell p v).heap[g]? = some o := (Below.heap_setCell w p v g hp).trans h
theorem blk_old {w : World} {g : Nat} {x : Obj} (h : w.heap[g]? = some x) (o : Obj) : (w.alloc o).heap[g]? = some x := (Below.heap_alloc w o g (lt_heap h)).trans h
/-- Sixteen bytes, as an array. -/
def arr16 (f : Nat → Int) : Array Value := #[.int .u8 (f 0), .int .u8 (f 1), .int .u8 (f 2), .int .u8 (f 3), .int .u8 (f 4), .int .u8 (f 5), .int .u8 (f 6), .int .u8 (f 7), .int .u8 (f 8), .int .u8 (f 9), .int .u8 (f 10), .int .u8 (f 11), .int .u8 (f 12), .int .u8 (f 13), .int .u8 (f 14), .int .u8 (f 15)]
theorem arr16_get (f : Nat → Int) (k : Nat) (hk : k < 16) : (arr16 f)[k]? = some (.int .u8 (f k)) := by
  match k, hk with
  | 0, _ => rfl
  | 1, _ => rfl
  | 2, _ => rfl
  | 3, _ => rfl
  | 4, _ => rfl
  | 5, _ => rfl
  | 6, _ => rfl
  | 7, _ => rfl
  | 8, _ => rfl
  | 9, _ => rfl
  | 10, _ => rfl
  | 11, _ => rfl
  | 12, _ => rfl
  | 13, _ => rfl
  | 14, _ => rfl
  | 15, _ => rfl
  | k + 16, h => exact absurd h (by omega)
theorem made_own0 (w : World) (base : Nat) (e : TypeId) (c : Nat) (hc : c ≤ 140737488355328) (hb : base ≤ w.heap.size) (f : Nat → Int) (g : Nat) (hg : g = w.heap.size) : Own (w.alloc (.cells (madeCells (Value.int .u8 0).cells c) e)) base e (some ⟨g, 0, none⟩) 0 c f := by
  subst hg
  exact ⟨by simp [nums], .inr ⟨w.heap.size, c, _, rfl, hb, heap_alloc_new w _, Nat.zero_le _, by unfold maxLen; omega, by simp [size_madeCells], by simp [nums]⟩⟩
/-- Some bytes in the middle of a block. -/
theorem blk_rd {w : World} {g B i n : Nat} {cs : Array Value} {t : TypeId} {f : Nat → Int} (h : w.heap[g]? = some (.cells cs t (0, 0))) (hB : g < B) (hf : ∀ k, k < n → cs[i + k]? = some (.int .u8 (f k))) : Rd w B (some ⟨g, i, none⟩) n f :=
  .inr ⟨g, i, rfl, hB, fun k hk => (blk_cell h (i + k)).trans (hf k hk)⟩
end Go.Proofs.YtimcdnbfdkpffaaGreat
/- A byte's type in this program: it is 0 at first, one cell, one byte. -/
namespace Go.Proofs.YtimcdnbfdkpffaaGreat
set_option maxRecDepth 100000
theorem Tryz.info5 : (Tryz.prog.info? 5).map (fun i => (i.zero, i.size, i.bytes)) = some (some (.int .u8 0), 1, 1) := by kernel_rfl
end Go.Proofs.YtimcdnbfdkpffaaGreat
/- Two arrays of bytes compared, over any program. -/
namespace Go.Proofs.YtimcdnbfdkpffaaGreat
open Go.RowKit
/-- Are m numbers the same, from place i on? -/
def eqs (x y : Nat → Int) (i : Nat) : Nat → Bool
  | 0 => true
  | m + 1 => x i == y i && eqs x y (i + 1) m
theorem eqs_iff (x y : Nat → Int) : ∀ m i, eqs x y i m = true ↔ ∀ k, i ≤ k → k < i + m → x k = y k
  | 0, i => by simp [eqs]; omega
  | m + 1, i => by
    simp only [eqs, Bool.and_eq_true, beq_iff_eq, eqs_iff x y m (i + 1)]
    constructor
    · rintro ⟨h, hr⟩ k h1 h2
      by_cases e : k = i
      · subst e; exact h
      · exact hr k (by omega) (by omega)
    · exact fun h => ⟨h i (Nat.le_refl _) (by omega), fun k h1 h2 => h k (by omega) (by omega)⟩
theorem equal_bytes {P : Program} (d : Nat) (t e : TypeId) (n : Nat) (xs ys : Array Value) (x y : Nat → Int) (ht : P.underlying t = some (.array n e)) (he : P.underlying e = some (.int .u8)) (hs : (P.info? e).map (·.size) = some 1)
    (hx : ∀ k, k < n → xs[k]? = some (.int .u8 (x k))) (hy : ∀ k, k < n → ys[k]? = some (.int .u8 (y k))) (w : World) :
    (Op.equalIn (d + 2) t (.agg xs) (.agg ys)).run P w = .ok (eqs x y 0 n) w := by
  have e5 : ∀ (a b : Int) (w : World), (Op.equalIn (d + 1) e (.int .u8 a) (.int .u8 b)).run P w = .ok (a == b) w := fun a b w => run_equalIn_int w d e .u8 .u8 a b he
  have hsz : ∀ w, (sizeOf e).run P w = .ok 1 w := fun w => by
    cases hq : P.info? e with
    | none => simp [hq] at hs
    | some i =>
      have h1 : i.size = 1 := by simpa [hq] using hs
      simp [sizeOf, typeInfo, hq, h1]
  have hagg : ∀ w, (isAgg e).run P w = .ok false w := fun w => by
    unfold isAgg
    rw [Sem.run_bind, run_underlying he w]
    rfl
  have hp : ∀ (zs : Array Value) (z : Nat → Int) (k : Nat) (w : World), zs[k]? = some (.int .u8 (z k)) → (part e zs (k * 1)).run P w = .ok (.int .u8 (z k)) w := fun zs z k w hk => by
    rw [Nat.mul_one]
    unfold part
    simp [Sem.run_bind, hagg, hk]
  rw [Op.equalIn]
  simp only [Sem.run_bind, run_underlying ht, Result.andThen_ok, hsz]
  rw [Std.Legacy.Range.forIn_eq_forIn_range']
  have hr : List.range' (Std.Legacy.Range.mk 0 n 1 (by decide)).start (Std.Legacy.Range.mk 0 n 1 (by decide)).size (Std.Legacy.Range.mk 0 n 1 (by decide)).step = List.range' 0 n := by simp [Std.Legacy.Range.size]
  rw [hr]
  have key : ∀ m i (w : World), i + m ≤ n → ((forIn (List.range' i m) ((none : Option Bool), ()) fun k (_ : Option Bool × Unit) => do
      let a ← part e xs (k * 1)
      let b ← part e ys (k * 1)
      let r ← Op.equalIn (d + 1) e a b
      if (!r) = true then pure (ForInStep.done (some false, ())) else pure (ForInStep.yield (none, ()))) : Sem _).run P w = .ok (if eqs x y i m = true then (none, ()) else (some false, ())) w := by
    intro m
    induction m with
    | zero =>
      intro i w _
      simp [eqs]
    | succ m ih =>
      intro i w hi
      rw [List.range'_succ]
      simp only [List.forIn_cons, Sem.run_bind, hp xs x i _ (hx i (by omega)), hp ys y i _ (hy i (by omega)), e5, Result.andThen_ok]
      by_cases hq : x i = y i
      · have hb : (x i == y i) = true := by simpa using hq
        simp only [hb, Bool.not_true, Bool.false_eq_true, if_false, Sem.run_pure, Result.andThen_ok]
        rw [ih (i + 1) w (by omega)]
        simp [eqs, hq]
      · have hb : (x i == y i) = false := by simpa using hq
        simp only [hb, Bool.not_false, if_true, Sem.run_pure, Result.andThen_ok]
        simp [eqs, hq]
  rw [key n 0 w (by omega)]
  simp only [Result.andThen_ok]
  cases eqs x y 0 n <;> rfl
end Go.Proofs.YtimcdnbfdkpffaaGreat
