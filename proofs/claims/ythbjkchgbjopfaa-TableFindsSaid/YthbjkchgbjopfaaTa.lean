/- Stage 13: a table of places in pure words: its calls, what follows. -/
import Derived.Test.YthbjkchgbjopfaaBytes
namespace Go.Proofs.Ythbjkchgbjopfaa
set_option maxRecDepth 100000
/-- The first number below m of which p holds. -/
def fstI (p : Nat → Bool) : Nat → Option Nat
  | 0 => none
  | m + 1 => match fstI p m with
    | some i => some i
    | none => if p m then some m else none
theorem fstI_some {p : Nat → Bool} : ∀ {m i : Nat}, fstI p m = some i ↔ i < m ∧ p i = true ∧ ∀ j, j < i → p j = false
  | 0, i => by simp [fstI]
  | m + 1, i => by
    have ih := @fstI_some p m
    have ihn : fstI p m = none ↔ ∀ j, j < m → p j = false := by
      constructor
      · intro h j hj
        cases hp : p j with
        | false => rfl
        | true =>
          exfalso
          have : ∃ k, k ≤ j ∧ p k = true ∧ ∀ q, q < k → p q = false := by
            clear h ih hj
            induction j using Nat.strongRecOn with
            | ind j IH =>
              by_cases hq : ∀ q, q < j → p q = false
              · exact ⟨j, Nat.le_refl _, hp, hq⟩
              · simp only [Classical.not_forall] at hq
                obtain ⟨q, hq1, hq2⟩ := hq
                have hq3 : p q = true := by simpa using hq2
                obtain ⟨k, h1, h2, h3⟩ := IH q hq1 hq3
                exact ⟨k, by omega, h2, h3⟩
          obtain ⟨k, hk, h1, h2⟩ := this
          have := ih.2 ⟨show k < m by omega, h1, h2⟩
          rw [h] at this
          cases this
      · intro h
        cases hf : fstI p m with
        | none => rfl
        | some j =>
          obtain ⟨h1, h2, _⟩ := ih.1 hf
          rw [h j h1] at h2
          cases h2
    unfold fstI
    cases hf : fstI p m with
    | some j =>
      simp only [Option.some.injEq]
      obtain ⟨h1, h2, h3⟩ := ih.1 hf
      constructor
      · rintro rfl
        exact ⟨by omega, h2, h3⟩
      · rintro ⟨h4, h5, h6⟩
        rcases Nat.lt_trichotomy i j with q | q | q
        · rw [h3 i q] at h5
          cases h5
        · exact q.symm
        · rw [h6 j q] at h2
          cases h2
    | none =>
      have hn := ihn.1 hf
      simp only
      split
      · rename_i hp
        simp only [Option.some.injEq]
        constructor
        · rintro rfl
          exact ⟨by omega, hp, hn⟩
        · rintro ⟨h4, h5, h6⟩
          rcases (show i < m ∨ i = m by omega) with q | q
          · rw [hn i q] at h5
            cases h5
          · exact q.symm
      · rename_i hp
        constructor
        · intro h
          cases h
        · rintro ⟨h4, h5, h6⟩
          rcases (show i < m ∨ i = m by omega) with q | rfl
          · rw [hn i q] at h5
            cases h5
          · exact absurd h5 hp
theorem fstI_none {p : Nat → Bool} {m : Nat} : fstI p m = none ↔ ∀ j, j < m → p j = false := by
  constructor
  · intro h j hj
    cases hp : p j with
    | false => rfl
    | true =>
      exfalso
      have : ∀ k, k < m → p k = true → False := by
        intro k
        induction k using Nat.strongRecOn with
        | ind k IH =>
          intro hk hpk
          by_cases hq : ∀ q, q < k → p q = false
          · have := fstI_some.2 ⟨hk, hpk, hq⟩
            rw [h] at this
            cases this
          · simp only [Classical.not_forall] at hq
            obtain ⟨q, hq1, hq2⟩ := hq
            exact IH q hq1 (by omega) (by simpa using hq2)
      exact this j hj hp
  · intro h
    cases hf : fstI p m with
    | none => rfl
    | some j =>
      obtain ⟨h1, h2, _⟩ := fstI_some.1 hf
      rw [h j h1] at h2
      cases h2
/-- How many numbers below m there are of which p holds. -/
def cntI (p : Nat → Bool) : Nat → Nat
  | 0 => 0
  | m + 1 => cntI p m + if p m then 1 else 0
theorem cntI_le (p : Nat → Bool) : ∀ m, cntI p m ≤ m
  | 0 => Nat.le_refl _
  | m + 1 => by
    have := cntI_le p m
    unfold cntI
    split <;> omega
theorem cntI_same {p q : Nat → Bool} : ∀ {m : Nat}, (∀ k, k < m → p k = q k) → cntI p m = cntI q m
  | 0, _ => rfl
  | m + 1, h => by
    unfold cntI
    rw [cntI_same fun k hk => h k (by omega), h m (by omega)]
theorem cntI_zero {p : Nat → Bool} : ∀ {m : Nat}, (∀ k, k < m → p k = false) → cntI p m = 0
  | 0, _ => rfl
  | m + 1, h => by
    unfold cntI
    rw [cntI_zero fun k hk => h k (by omega), h m (by omega)]
    rfl
def updB (f : Nat → Bool) (p : Nat) (v : Bool) (k : Nat) : Bool := if k = p then v else f k
def updN (f : Nat → Nat) (p : Nat) (v : Nat) (k : Nat) : Nat := if k = p then v else f k
theorem updB_at (f : Nat → Bool) (p : Nat) (v : Bool) : updB f p v p = v := if_pos rfl
theorem updN_at (f : Nat → Nat) (p v : Nat) : updN f p v p = v := if_pos rfl
theorem updB_ne {f : Nat → Bool} {p k : Nat} {v : Bool} (h : k ≠ p) : updB f p v k = f k := if_neg h
theorem updN_ne {f : Nat → Nat} {p k v : Nat} (h : k ≠ p) : updN f p v k = f k := if_neg h
theorem cntI_upd (f : Nat → Bool) (p : Nat) (v : Bool) : ∀ {m : Nat}, p < m → cntI (updB f p v) m + (if f p then 1 else 0) = cntI f m + (if v then 1 else 0)
  | 0, h => absurd h (Nat.not_lt_zero _)
  | m + 1, h => by
    show cntI (updB f p v) m + (if updB f p v m then 1 else 0) + _ = cntI f m + (if f m then 1 else 0) + _
    by_cases e : p = m
    · subst e
      rw [updB_at, cntI_same (p := updB f p v) (q := f) fun k hk => updB_ne (by omega)]
      omega
    · have := cntI_upd f p v (m := m) (by omega)
      rw [updB_ne (Ne.symm e)]
      omega
/-- A table of n places: of each whether it has an entry, or a mark; its entry (of nothing, where there is none). -/
structure Tb where
  n : Nat
  ful : Nat → Bool
  mrk : Nat → Bool
  eh : Nat → Nat
  ew : Nat → Nat
namespace Tb
structure Ok (s : Tb) : Prop where
  pos : 0 < s.n
  top : s.n ≤ 262144
  hash : ∀ k, s.eh k < 18446744073709551616
  what : ∀ k, s.ew k < 4294967296
  one : ∀ k, s.mrk k = true → s.ful k = false
  no : ∀ k, s.ful k = false → s.eh k = 0 ∧ s.ew k = 0
def new (n : Nat) : Tb := ⟨n, fun _ => false, fun _ => false, fun _ => 0, fun _ => 0⟩
theorem ok_new {n : Nat} (h : 0 < n) (h' : n ≤ 262144) : (new n).Ok := ⟨h, h', fun _ => (by decide : 0 < 18446744073709551616), fun _ => (by decide : 0 < 4294967296), fun _ _ => rfl, fun _ _ => ⟨rfl, rfl⟩⟩
/-- The i-th place from where a hash's way begins, round about. -/
def st (s : Tb) (h i : Nat) : Nat := (h % s.n + i) % s.n
theorem st_lt {s : Tb} (hs : s.Ok) (h i : Nat) : s.st h i < s.n := Nat.mod_lt _ hs.pos
def put (s : Tb) (k h x : Nat) : Tb := ⟨s.n, updB s.ful k true, updB s.mrk k false, updN s.eh k h, updN s.ew k x⟩
def gone (s : Tb) (k : Nat) : Tb := ⟨s.n, updB s.ful k false, updB s.mrk k true, updN s.eh k 0, updN s.ew k 0⟩
theorem ok_put {s : Tb} (hs : s.Ok) (k : Nat) {h x : Nat} (hh : h < 18446744073709551616) (hx : x < 4294967296) : (s.put k h x).Ok := by
  refine ⟨hs.pos, hs.top, fun j => ?_, fun j => ?_, fun j => ?_, fun j => ?_⟩
  · show updN s.eh k h j < _
    unfold updN
    split
    · exact hh
    · exact hs.hash j
  · show updN s.ew k x j < _
    unfold updN
    split
    · exact hx
    · exact hs.what j
  · show updB s.mrk k false j = true → updB s.ful k true j = false
    unfold updB
    split
    · intro h; cases h
    · exact hs.one j
  · show updB s.ful k true j = false → updN s.eh k h j = 0 ∧ updN s.ew k x j = 0
    unfold updB updN
    split
    · intro h; cases h
    · exact hs.no j
theorem ok_gone {s : Tb} (hs : s.Ok) (k : Nat) : (s.gone k).Ok := by
  refine ⟨hs.pos, hs.top, fun j => ?_, fun j => ?_, fun j => ?_, fun j => ?_⟩
  · show updN s.eh k 0 j < _
    unfold updN
    split
    · decide
    · exact hs.hash j
  · show updN s.ew k 0 j < _
    unfold updN
    split
    · decide
    · exact hs.what j
  · show updB s.mrk k true j = true → updB s.ful k false j = false
    unfold updB
    split
    · intro _; rfl
    · exact hs.one j
  · show updB s.ful k false j = false → updN s.eh k 0 j = 0 ∧ updN s.ew k 0 j = 0
    unfold updB updN
    split
    · intro _; exact ⟨rfl, rfl⟩
    · exact hs.no j
/-- Where an entry of a hash is put, told by its step. -/
def free (s : Tb) (h : Nat) : Option Nat := fstI (fun i => !s.ful (s.st h i)) s.n
def pt (s : Tb) (h x : Nat) : Tb := match s.free h with
  | none => s
  | some i => s.put (s.st h i) h x
def ptI (s : Tb) (h : Nat) : Nat := match s.free h with
  | none => 0
  | some i => s.st h i
def ptE (s : Tb) (h : Nat) : Int := match s.free h with
  | none => 9
  | some _ => 0
theorem ok_pt {s : Tb} (hs : s.Ok) {h x : Nat} (hh : h < 18446744073709551616) (hx : x < 4294967296) : (s.pt h x).Ok := by
  unfold pt
  split
  · exact hs
  · exact ok_put hs _ hh hx
theorem pt_n (s : Tb) (h x : Nat) : (s.pt h x).n = s.n := by
  unfold pt
  split <;> rfl
/-- Behind Drop of a place; the error that is told. -/
def isF (s : Tb) (p : Int) : Bool := decide (0 ≤ p) && decide (p < (s.n : Int)) && s.ful p.toNat
def dr (s : Tb) (p : Int) : Tb := if s.isF p then s.gone p.toNat else s
def drE (s : Tb) (p : Int) : Int := if decide (0 ≤ p) && decide (p < (s.n : Int)) then (if s.ful p.toNat then 0 else 7) else 2
theorem ok_dr {s : Tb} (hs : s.Ok) (p : Int) : (s.dr p).Ok := by
  unfold dr
  split
  · exact ok_gone hs _
  · exact hs
theorem dr_n (s : Tb) (p : Int) : (s.dr p).n = s.n := by
  unfold dr
  split <;> rfl
/-- What Get tells of a place. -/
def gtV (s : Tb) (p : Int) : Array Value := if s.isF p then #[.int .u64 (s.eh p.toNat : Int), .int .u32 (s.ew p.toNat : Int)] else #[.int .u64 0, .int .u32 0]
def entries (s : Tb) : Nat := cntI s.ful s.n
def marks (s : Tb) : Nat := cntI s.mrk s.n
/-- A hash's way: its end; the places with entries of that hash among the first m ones. -/
def lim (s : Tb) (h : Nat) : Nat := (fstI (fun i => !s.ful (s.st h i) && !s.mrk (s.st h i)) s.n).getD s.n
def on (s : Tb) (h i : Nat) : Bool := s.ful (s.st h i) && s.eh (s.st h i) == h
def wayU (s : Tb) (h : Nat) : Nat → List Nat
  | 0 => []
  | m + 1 => wayU s h m ++ if s.on h m then [s.st h m] else []
def way (s : Tb) (h : Nat) : List Nat := s.wayU h (s.lim h)
theorem lim_le (s : Tb) (h : Nat) : s.lim h ≤ s.n := by
  unfold lim
  cases e : fstI _ s.n with
  | none => exact Nat.le_refl _
  | some i => exact Nat.le_of_lt (fstI_some.1 e).1
/-- At its end: an empty place, or it has gone round. -/
theorem lim_end {s : Tb} {h : Nat} (hl : s.lim h < s.n) : s.ful (s.st h (s.lim h)) = false ∧ s.mrk (s.st h (s.lim h)) = false := by
  unfold lim at hl ⊢
  cases e : fstI (fun i => !s.ful (s.st h i) && !s.mrk (s.st h i)) s.n with
  | none => rw [e] at hl; exact absurd hl (Nat.lt_irrefl _)
  | some i =>
    have := (fstI_some.1 e).2.1
    simpa using this
theorem lim_in {s : Tb} {h i : Nat} (hi : i < s.lim h) : s.ful (s.st h i) = true ∨ s.mrk (s.st h i) = true := by
  unfold lim at hi
  have key : (!s.ful (s.st h i) && !s.mrk (s.st h i)) = false := by
    cases e : fstI (fun i => !s.ful (s.st h i) && !s.mrk (s.st h i)) s.n with
    | none =>
      rw [e] at hi
      exact fstI_none.1 e i hi
    | some j =>
      rw [e] at hi
      exact (fstI_some.1 e).2.2 i hi
  cases h1 : s.ful (s.st h i) with
  | true => exact .inl rfl
  | false =>
    rw [h1] at key
    exact .inr (by simpa using key)
/-- What ends it. -/
theorem lim_eq {s : Tb} {h i : Nat} (hi : i ≤ s.n) (hin : ∀ j, j < i → s.ful (s.st h j) = true ∨ s.mrk (s.st h j) = true) (he : i < s.n → s.ful (s.st h i) = false ∧ s.mrk (s.st h i) = false) : s.lim h = i := by
  have h1 := lim_le s h
  rcases Nat.lt_trichotomy (s.lim h) i with q | q | q
  · have h2 := lim_end (s := s) (h := h) (by omega)
    rcases hin _ q with e | e
    · rw [h2.1] at e; cases e
    · rw [h2.2] at e; cases e
  · exact q
  · have h2 := he (by omega)
    rcases lim_in q with e | e
    · rw [h2.1] at e; cases e
    · rw [h2.2] at e; cases e
theorem wayU_lt {s : Tb} (hs : s.Ok) (h : Nat) : ∀ {m k : Nat}, k ∈ s.wayU h m → k < s.n
  | 0, _, e => by cases e
  | m + 1, k, e => by
    unfold wayU at e
    rcases List.mem_append.1 e with q | q
    · exact wayU_lt hs h q
    · split at q
      · rw [List.mem_singleton] at q
        rw [q]
        exact st_lt hs h m
      · cases q
theorem wayU_mem {s : Tb} {h : Nat} : ∀ {m k : Nat}, k ∈ s.wayU h m ↔ ∃ i, i < m ∧ s.on h i = true ∧ s.st h i = k
  | 0, k => by simp [wayU]
  | m + 1, k => by
    unfold wayU
    rw [List.mem_append, wayU_mem]
    constructor
    · rintro (⟨i, h1, h2, h3⟩ | q)
      · exact ⟨i, by omega, h2, h3⟩
      · split at q
        · rename_i ho
          rw [List.mem_singleton] at q
          exact ⟨m, by omega, ho, q.symm⟩
        · cases q
    · rintro ⟨i, h1, h2, h3⟩
      rcases (show i < m ∨ i = m by omega) with q | rfl
      · exact .inl ⟨i, q, h2, h3⟩
      · right
        rw [if_pos h2, h3]
        exact List.mem_singleton.2 rfl
theorem wayU_len (s : Tb) (h : Nat) : ∀ m, (s.wayU h m).length ≤ m
  | 0 => Nat.le_refl _
  | m + 1 => by
    unfold wayU
    have := wayU_len s h m
    rw [List.length_append]
    split
    · simp only [List.length_cons, List.length_nil]; omega
    · simp only [List.length_nil]; omega
theorem wayU_pre (s : Tb) (h : Nat) {m : Nat} : ∀ {m' : Nat}, m ≤ m' → s.wayU h m <+: s.wayU h m'
  | 0, hm => by
    obtain rfl : m = 0 := by omega
    exact List.prefix_rfl
  | m' + 1, hm => by
    rcases (show m ≤ m' ∨ m = m' + 1 by omega) with q | rfl
    · exact (wayU_pre s h q).trans (List.prefix_append _ _)
    · exact List.prefix_rfl
/-- The entry of a hash that is of a number: its place. -/
def find (s : Tb) (h x : Nat) : Option Nat := (s.way h).find? (fun k => s.ew k == x)
theorem find_lt {s : Tb} (hs : s.Ok) {h x k : Nat} (hf : s.find h x = some k) : k < s.n := wayU_lt hs h (List.mem_of_find?_eq_some hf)
theorem find_ful {s : Tb} {h x k : Nat} (hf : s.find h x = some k) : s.ful k = true ∧ s.eh k = h ∧ s.ew k = x := by
  have h1 := List.mem_of_find?_eq_some hf
  have h2 := List.find?_some hf
  obtain ⟨i, _, h3, rfl⟩ := wayU_mem.1 h1
  unfold on at h3
  simp only [Bool.and_eq_true, beq_iff_eq] at h3 h2
  exact ⟨h3.1, h3.2, h2⟩
def fdV (s : Tb) (h x : Nat) : Array Value := match s.find h x with
  | none => #[.int .i64 0, .bool false]
  | some k => #[.int .i64 (k : Int), .bool true]
/-- The entries that All tells of the first m places. -/
def allU (s : Tb) : Nat → List (Nat × Nat × Nat)
  | 0 => []
  | m + 1 => allU s m ++ if s.ful m then [(m, s.eh m, s.ew m)] else []
def all (s : Tb) : List (Nat × Nat × Nat) := s.allU s.n
theorem allU_len (s : Tb) : ∀ m, (s.allU m).length = cntI s.ful m
  | 0 => rfl
  | m + 1 => by
    unfold allU cntI
    rw [List.length_append, allU_len s m]
    split <;> rfl
theorem allU_pre (s : Tb) {m : Nat} : ∀ {m' : Nat}, m ≤ m' → s.allU m <+: s.allU m'
  | 0, hm => by
    obtain rfl : m = 0 := by omega
    exact List.prefix_rfl
  | m' + 1, hm => by
    rcases (show m ≤ m' ∨ m = m' + 1 by omega) with q | rfl
    · exact (allU_pre s q).trans (List.prefix_append _ _)
    · exact List.prefix_rfl
theorem allU_mem {s : Tb} : ∀ {m : Nat} {x : Nat × Nat × Nat}, x ∈ s.allU m ↔ x.1 < m ∧ s.ful x.1 = true ∧ x.2 = (s.eh x.1, s.ew x.1)
  | 0, x => by simp [allU]
  | m + 1, x => by
    unfold allU
    rw [List.mem_append, allU_mem]
    constructor
    · rintro (⟨h1, h2, h3⟩ | q)
      · exact ⟨by omega, h2, h3⟩
      · split at q
        · rename_i ho
          rw [List.mem_singleton] at q
          subst q
          exact ⟨by simp, ho, rfl⟩
        · cases q
    · rintro ⟨h1, h2, h3⟩
      rcases (show x.1 < m ∨ x.1 = m by omega) with q | q
      · exact .inl ⟨q, h2, h3⟩
      · right
        subst q
        rw [if_pos h2]
        exact List.mem_singleton.2 (Prod.ext rfl h3)
end Tb
end Go.Proofs.Ythbjkchgbjopfaa
