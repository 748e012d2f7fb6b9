import Derived.Test.YtkmakdhlaenaoaaGm0
/- Stage 11's pure words: a wheel as the document defines it (its arena, its timers in the order of their arming, now, how many armings there were), what its calls do, and what always holds. -/
namespace Go.Proofs.Ytkmakdhlaenaoaa
/-- A timer: its handle, when it is due, what for. -/
structure Tm where
  i : Nat
  k : Nat
  at_ : Nat
  what : Nat
structure Wh where
  a : Ar
  l : List Tm
  now : Nat
  tn : Nat
def Tm.is_ (t : Tm) (i : Int) (k : Nat) : Bool := decide ((t.i : Int) = i) && (t.k == k)
theorem Tm.is_iff {t : Tm} {i : Int} {k : Nat} : t.is_ i k = true ↔ (t.i : Int) = i ∧ t.k = k := by
  unfold Tm.is_
  simp
/-- Cells that are freed one behind the other. -/
def goneL (a : Ar) (L : List Nat) : Ar := L.foldl Ar.gone a
theorem goneL_facts : ∀ (L : List Nat) (a : Ar), a.Ok → L.Nodup → (∀ i, i ∈ L → a.at_ i ≠ 0) → (goneL a L).Ok ∧ (∀ j, (goneL a L).at_ j = if j ∈ L then 0 else a.at_ j) ∧ (goneL a L).count + L.length = a.count ∧ (goneL a L).serial = a.serial ∧ (goneL a L).has.length = a.has.length
  | [], a, h, _, _ => ⟨h, fun j => by simp [goneL], rfl, rfl, rfl⟩
  | i :: t, a, h, hn, hl => by
    obtain ⟨hi, ht⟩ := List.nodup_cons.1 hn
    have h0 := hl i (List.mem_cons_self ..)
    have hat := Ar.at_gone h0
    have hl2 : ∀ j, j ∈ t → (a.gone i).at_ j ≠ 0 := fun j hj => by
      rw [hat, if_neg (fun e => hi (by rw [← e]; exact hj))]
      exact hl j (List.mem_cons_of_mem _ hj)
    obtain ⟨h1, h2, h3, h4, h5⟩ := goneL_facts t (a.gone i) (Ar.ok_gone h h0) ht hl2
    have e : goneL a (i :: t) = goneL (a.gone i) t := rfl
    have hc := Ar.count_gone h0
    rw [e]
    refine ⟨h1, fun j => ?_, ?_, h4, h5.trans List.length_set⟩
    · rw [h2, hat]
      by_cases q : j = i
      · subst q
        simp
      · by_cases q2 : j ∈ t
        · simp [q2]
        · simp [q, q2]
    · rw [List.length_cons]
      omega
namespace Wh
def new (n : Nat) : Wh := ⟨Ar.new n, [], 0, 0⟩
def lastT : Nat := 18446744073709551615
/-- May no timer be armed at a tick? -/
def over (s : Wh) (at_ : Nat) : Bool := decide (s.now = lastT) || (decide (s.now < at_) && decide (4294967296 ≤ at_ - s.now))
/-- At which tick it is due then. -/
def nxt (s : Wh) (at_ : Nat) : Nat := if at_ ≤ s.now then s.now + 1 else at_
def drop (l : List Tm) (i : Int) (k : Nat) : List Tm := l.filter fun t => !t.is_ i k
def find (s : Wh) (i : Int) (k : Nat) : Option Tm := s.l.find? fun t => t.is_ i k
def armE (s : Wh) (at_ : Nat) : Int := if s.over at_ = true then 15 else match s.a.which with
  | none => 9
  | some _ => 0
def armH (s : Wh) (at_ : Nat) : Array Value := if s.over at_ = true then #[.int .i64 0, .int .u64 0] else match s.a.which with
  | none => #[.int .i64 0, .int .u64 0]
  | some i => #[.int .i64 (i : Int), .int .u64 ((s.a.serial : Int) + 1)]
def arm (s : Wh) (at_ what : Nat) : Wh := if s.over at_ = true then s else match s.a.which with
  | none => s
  | some i => ⟨s.a.taken i, s.l ++ [⟨i, s.a.serial + 1, s.nxt at_, what⟩], s.now, s.tn + 1⟩
def againE (s : Wh) (i : Int) (k at_ : Nat) : Int := if s.a.live i k = true then (if s.over at_ = true then 15 else 0) else 14
def again (s : Wh) (i : Int) (k at_ : Nat) : Wh := match s.find i k with
  | none => s
  | some t => if s.over at_ = true then s else ⟨s.a, drop s.l i k ++ [⟨t.i, t.k, s.nxt at_, t.what⟩], s.now, s.tn + 1⟩
def cancelE (s : Wh) (i : Int) (k : Nat) : Int := if s.a.live i k = true then 0 else 14
def cancel (s : Wh) (i : Int) (k : Nat) : Wh := if s.a.live i k = true then ⟨s.a.gone i.toNat, drop s.l i k, s.now, s.tn⟩ else s
def due (s : Wh) (i : Int) (k : Nat) : Array Value := match s.find i k with
  | none => #[.int .u64 0, .bool false]
  | some t => #[.int .u64 (t.at_ : Int), .bool true]
/-- What is due at the next tick. -/
def fires (s : Wh) : List Tm := s.l.filter fun t => decide (t.at_ = s.now + 1)
def stay (s : Wh) : List Tm := s.l.filter fun t => !decide (t.at_ = s.now + 1)
def ticked (s : Wh) : Wh := ⟨goneL s.a (s.fires.map Tm.i), s.stay, s.now + 1, s.tn⟩
def tick (s : Wh) : Wh := if s.now = lastT then s else s.ticked
def tickE (s : Wh) : Int := if s.now = lastT then 15 else 0
def told (s : Wh) : List Tm := if s.now = lastT then [] else s.fires
def skipE (s : Wh) (to : Nat) : Int := if s.l.length = 0 then (if to < s.now then 2 else 0) else 13
def skip (s : Wh) (to : Nat) : Wh := if s.skipE to = 0 then ⟨s.a, s.l, to, s.tn⟩ else s
structure Ok (s : Wh) : Prop where
  a : s.a.Ok
  ent : ∀ t, t ∈ s.l → s.a.at_ t.i = t.k ∧ t.k ≠ 0
  all : ∀ i, s.a.at_ i ≠ 0 → ∃ t, t ∈ s.l ∧ t.i = i
  nd : (s.l.map Tm.i).Nodup
  cnt : s.l.length = s.a.count
  fut : ∀ t, t ∈ s.l → s.now < t.at_ ∧ t.at_ < 18446744073709551616
  now : s.now < 18446744073709551616
theorem ok_new (n : Nat) : (new n).Ok := by
  have h0 : ∀ i, (Ar.new n).at_ i = 0 := by
    intro i
    unfold Ar.at_ Ar.new
    rw [List.getElem?_replicate]
    split <;> rfl
  refine ⟨Ar.ok_new n, (fun t h => nomatch h), fun i h => absurd (h0 i) h, List.nodup_nil, ?_, (fun t h => nomatch h), by show 0 < 18446744073709551616; omega⟩
  show 0 = (Ar.new n).count
  unfold Ar.count Ar.new
  simp [List.countP_replicate]
theorem one_of {l : List Tm} (hn : (l.map Tm.i).Nodup) {t u : Tm} (ht : t ∈ l) (hu : u ∈ l) (e : t.i = u.i) : t = u := by
  induction l with
  | nil => cases ht
  | cons x r ih =>
    rw [List.map_cons, List.nodup_cons] at hn
    rcases List.mem_cons.1 ht with q1 | q1
    · rcases List.mem_cons.1 hu with q2 | q2
      · rw [q1, q2]
      · exact absurd (List.mem_map.2 ⟨u, q2, by rw [← e, q1]⟩) hn.1
    · rcases List.mem_cons.1 hu with q2 | q2
      · exact absurd (List.mem_map.2 ⟨t, q1, by rw [e, q2]⟩) hn.1
      · exact ih hn.2 q1 q2
/-- A handle that is live is a timer's. -/
theorem live_ent {s : Wh} (h : s.Ok) {i : Int} {k : Nat} (hl : s.a.live i k = true) : ∃ t, t ∈ s.l ∧ (t.i : Int) = i ∧ t.k = k ∧ s.find i k = some t := by
  obtain ⟨h0, h1, h2⟩ := Ar.live_iff.1 hl
  obtain ⟨t, ht, e⟩ := h.all i.toNat (by rw [h2]; exact h1)
  have e1 : (t.i : Int) = i := by omega
  have e2 : t.k = k := by rw [← (h.ent t ht).1, e, h2]
  refine ⟨t, ht, e1, e2, ?_⟩
  unfold find
  cases hf : s.l.find? (fun t => t.is_ i k) with
  | none =>
    rw [List.find?_eq_none] at hf
    exact absurd (Tm.is_iff.2 ⟨e1, e2⟩) (by simpa using hf t ht)
  | some u =>
    have hu := List.mem_of_find?_eq_some hf
    have hp := List.find?_some hf
    have := Tm.is_iff.1 hp
    rw [one_of h.nd hu ht (by omega)]
theorem not_live {s : Wh} (h : s.Ok) {i : Int} {k : Nat} (hl : s.a.live i k = false) : s.find i k = none ∧ ∀ t, t ∈ s.l → t.is_ i k = false := by
  have key : ∀ t, t ∈ s.l → t.is_ i k = false := fun t ht => by
    cases e : t.is_ i k with
    | false => rfl
    | true =>
      obtain ⟨h1, h2⟩ := Tm.is_iff.1 e
      obtain ⟨h3, h4⟩ := h.ent t ht
      have : s.a.live i k = true := Ar.live_iff.2 ⟨by omega, by rw [← h2]; exact h4, by rw [show i.toNat = t.i by omega, h3, h2]⟩
      rw [hl] at this
      cases this
  refine ⟨?_, key⟩
  unfold find
  rw [List.find?_eq_none]
  intro t ht
  rw [key t ht]
  decide
theorem find_live {s : Wh} (h : s.Ok) {i : Int} {k : Nat} {t : Tm} (hf : s.find i k = some t) : s.a.live i k = true := by
  cases e : s.a.live i k with
  | true => rfl
  | false =>
    rw [(not_live h e).1] at hf
    cases hf
/-- Which ones stay when one is dropped. -/
theorem drop_is {s : Wh} (h : s.Ok) {i : Int} {k : Nat} {t : Tm} (ht : t ∈ s.l) (hi : (t.i : Int) = i) (hk : t.k = k) : ∀ u, u ∈ s.l → (u.is_ i k = true ↔ u.i = t.i) := fun u hu => by
  rw [Tm.is_iff]
  constructor
  · rintro ⟨h1, _⟩
    omega
  · intro e
    have := one_of h.nd hu ht e
    subst this
    exact ⟨hi, hk⟩
theorem mem_drop {l : List Tm} {i : Int} {k : Nat} {u : Tm} : u ∈ drop l i k ↔ u ∈ l ∧ u.is_ i k = false := by
  unfold drop
  rw [List.mem_filter]
  simp
theorem drop_len : ∀ (l : List Tm) (i : Int) (k : Nat) (t : Tm), t ∈ l → (∀ u, u ∈ l → (u.is_ i k = true ↔ u.i = t.i)) → (l.map Tm.i).Nodup → (drop l i k).length + 1 = l.length
  | [], _, _, _, h, _, _ => nomatch h
  | x :: r, i, k, t, ht, hu, hn => by
    rw [List.map_cons, List.nodup_cons] at hn
    by_cases e : x.is_ i k = true
    · have hx := (hu x (List.mem_cons_self ..)).1 e
      have : drop r i k = r := by
        unfold drop
        rw [List.filter_eq_self]
        intro u hr
        cases q : u.is_ i k with
        | false => rfl
        | true =>
          have := (hu u (List.mem_cons_of_mem _ hr)).1 q
          exact absurd (List.mem_map.2 ⟨u, hr, by omega⟩) hn.1
      have e2 : drop (x :: r) i k = drop r i k := by
        unfold drop
        rw [List.filter_cons_of_neg (by simp [e])]
      rw [e2, this, List.length_cons]
    · have hne : t ≠ x := fun q => e (by rw [← q]; exact (hu t ht).2 rfl)
      have ht' : t ∈ r := (List.mem_cons.1 ht).resolve_left hne
      have ih := drop_len r i k t ht' (fun u hr => hu u (List.mem_cons_of_mem _ hr)) hn.2
      have e2 : drop (x :: r) i k = x :: drop r i k := by
        unfold drop
        rw [List.filter_cons_of_pos (by simp [e])]
      rw [e2, List.length_cons, List.length_cons]
      omega
theorem nd_filter {l : List Tm} (hn : (l.map Tm.i).Nodup) (p : Tm → Bool) : ((l.filter p).map Tm.i).Nodup := hn.sublist (List.filter_sublist.map _)
theorem nxt_gt (s : Wh) (at_ : Nat) : s.now < s.nxt at_ := by
  unfold nxt
  split <;> omega
theorem nxt_lt {s : Wh} (h : s.now < 18446744073709551616) {at_ : Nat} (ho : s.over at_ = false) (ha : at_ < 18446744073709551616) : s.nxt at_ < 18446744073709551616 := by
  unfold over lastT at ho
  simp at ho
  unfold nxt
  split <;> omega
theorem ok_arm {s : Wh} (h : s.Ok) {at_ : Nat} (ha : at_ < 18446744073709551616) (what : Nat) : (s.arm at_ what).Ok := by
  unfold arm
  cases ho : s.over at_ with
  | true => simpa using h
  | false =>
    rw [if_neg (by simp)]
    cases hw : s.a.which with
    | none => exact h
    | some i =>
      have h0 := Ar.which_at h.a hw
      have hat := Ar.at_taken h.a hw
      have hne : ∀ t, t ∈ s.l → t.i ≠ i := fun t ht e => by
        obtain ⟨h1, h2⟩ := h.ent t ht
        rw [e, h0] at h1
        omega
      refine ⟨Ar.ok_taken h.a hw, fun t ht => ?_, fun j hj => ?_, ?_, ?_, fun t ht => ?_, h.now⟩
      · show (s.a.taken i).at_ t.i = t.k ∧ _
        rw [hat]
        rcases List.mem_append.1 ht with q | q
        · rw [if_neg (hne t q)]
          exact h.ent t q
        · obtain rfl := List.mem_singleton.1 q
          exact ⟨if_pos rfl, by show s.a.serial + 1 ≠ 0; omega⟩
      · have hj : (s.a.taken i).at_ j ≠ 0 := hj
        rw [hat] at hj
        by_cases e : j = i
        · exact ⟨_, List.mem_append_right _ (List.mem_singleton.2 rfl), e.symm⟩
        · rw [if_neg e] at hj
          obtain ⟨t, ht, e2⟩ := h.all j hj
          exact ⟨t, List.mem_append_left _ ht, e2⟩
      · show ((s.l ++ [_]).map Tm.i).Nodup
        rw [List.map_append, List.nodup_append]
        refine ⟨h.nd, by simp, fun a ha b hb e => ?_⟩
        obtain ⟨t, ht, e2⟩ := List.mem_map.1 ha
        simp at hb
        exact hne t ht (by omega)
      · show (s.l ++ [_]).length = (s.a.taken i).count
        rw [Ar.count_taken h.a hw, List.length_append, h.cnt]
        rfl
      · rcases List.mem_append.1 ht with q | q
        · exact h.fut t q
        · obtain rfl := List.mem_singleton.1 q
          exact ⟨nxt_gt s at_, nxt_lt h.now ho ha⟩
theorem ok_again {s : Wh} (h : s.Ok) (i : Int) (k : Nat) {at_ : Nat} (ha : at_ < 18446744073709551616) : (s.again i k at_).Ok := by
  unfold again
  cases hf : s.find i k with
  | none => exact h
  | some t =>
    cases ho : s.over at_ with
    | true => simpa using h
    | false =>
      dsimp only
      rw [if_neg (by simp)]
      have hl := find_live h hf
      obtain ⟨t', ht, hi, hk, hf'⟩ := live_ent h hl
      rw [hf] at hf'
      injection hf' with hf'
      subst hf'
      have hd := drop_is h ht hi hk
      have hlen := drop_len s.l i k t ht hd h.nd
      refine ⟨h.a, fun u hu => ?_, fun j hj => ?_, ?_, ?_, fun u hu => ?_, h.now⟩
      · rcases List.mem_append.1 hu with q | q
        · exact h.ent u (mem_drop.1 q).1
        · obtain rfl := List.mem_singleton.1 q
          exact h.ent t ht
      · obtain ⟨u, hu, e⟩ := h.all j hj
        by_cases q : u.is_ i k = true
        · exact ⟨_, List.mem_append_right _ (List.mem_singleton.2 rfl), by have := (hd u hu).1 q; show t.i = j; omega⟩
        · exact ⟨u, List.mem_append_left _ (mem_drop.2 ⟨hu, by simpa using q⟩), e⟩
      · show ((drop s.l i k ++ [_]).map Tm.i).Nodup
        rw [List.map_append, List.nodup_append]
        refine ⟨nd_filter h.nd _, by simp, fun a ha b hb e => ?_⟩
        obtain ⟨u, hu, e2⟩ := List.mem_map.1 ha
        simp at hb
        obtain ⟨hu1, hu2⟩ := mem_drop.1 hu
        rw [(hd u hu1).2 (by omega)] at hu2
        cases hu2
      · show (drop s.l i k ++ [_]).length = s.a.count
        rw [List.length_append, ← h.cnt]
        exact hlen
      · rcases List.mem_append.1 hu with q | q
        · exact h.fut u (mem_drop.1 q).1
        · obtain rfl := List.mem_singleton.1 q
          exact ⟨nxt_gt s at_, nxt_lt h.now ho ha⟩
theorem ok_cancel {s : Wh} (h : s.Ok) (i : Int) (k : Nat) : (s.cancel i k).Ok := by
  unfold cancel
  cases hl : s.a.live i k with
  | false => simpa using h
  | true =>
    rw [if_pos rfl]
    obtain ⟨t, ht, hi, hk, hf⟩ := live_ent h hl
    have hd := drop_is h ht hi hk
    have hlen := drop_len s.l i k t ht hd h.nd
    have e1 : i.toNat = t.i := by omega
    rw [e1]
    have h0 : s.a.at_ t.i ≠ 0 := by
      rw [(h.ent t ht).1]
      exact (h.ent t ht).2
    have hat := Ar.at_gone h0
    have hc := Ar.count_gone h0
    refine ⟨Ar.ok_gone h.a h0, fun u hu => ?_, fun j hj => ?_, nd_filter h.nd _, ?_, fun u hu => h.fut u (mem_drop.1 hu).1, h.now⟩
    · obtain ⟨hu1, hu2⟩ := mem_drop.1 hu
      show (s.a.gone t.i).at_ u.i = u.k ∧ _
      rw [hat, if_neg (fun e => by rw [(hd u hu1).2 e] at hu2; cases hu2)]
      exact h.ent u hu1
    · have hj : (s.a.gone t.i).at_ j ≠ 0 := hj
      rw [hat] at hj
      by_cases e : j = t.i
      · rw [if_pos e] at hj
        exact absurd rfl hj
      · rw [if_neg e] at hj
        obtain ⟨u, hu, e2⟩ := h.all j hj
        refine ⟨u, mem_drop.2 ⟨hu, ?_⟩, e2⟩
        cases q : u.is_ i k with
        | false => rfl
        | true => exact absurd ((hd u hu).1 q) (by omega)
    · show (drop s.l i k).length = (s.a.gone t.i).count
      have := h.cnt
      omega
theorem fires_facts {s : Wh} (h : s.Ok) : (s.fires.map Tm.i).Nodup ∧ (∀ i, i ∈ s.fires.map Tm.i → s.a.at_ i ≠ 0) ∧ s.fires.length + s.stay.length = s.l.length := by
  refine ⟨nd_filter h.nd _, fun i hi => ?_, ?_⟩
  · obtain ⟨t, ht, rfl⟩ := List.mem_map.1 hi
    obtain ⟨h1, h2⟩ := h.ent t (List.mem_filter.1 ht).1
    rw [h1]
    exact h2
  · unfold fires stay
    rw [← List.countP_eq_length_filter, ← List.countP_eq_length_filter, List.length_eq_countP_add_countP (fun t : Tm => decide (t.at_ = s.now + 1))]
    congr 2
    funext t
    by_cases e : t.at_ = s.now + 1 <;> simp [e]
theorem mem_fires {s : Wh} {t : Tm} : t ∈ s.fires ↔ t ∈ s.l ∧ t.at_ = s.now + 1 := by
  unfold fires
  rw [List.mem_filter]
  simp
theorem mem_stay {s : Wh} {t : Tm} : t ∈ s.stay ↔ t ∈ s.l ∧ t.at_ ≠ s.now + 1 := by
  unfold stay
  rw [List.mem_filter]
  simp
theorem ok_ticked {s : Wh} (h : s.Ok) (hn : s.now < 18446744073709551615) : s.ticked.Ok := by
  obtain ⟨f1, f2, f3⟩ := fires_facts h
  obtain ⟨g1, g2, g3, g4, g5⟩ := goneL_facts _ s.a h.a f1 f2
  have hout : ∀ t, t ∈ s.stay → ¬ t.i ∈ s.fires.map Tm.i := fun t ht hm => by
    obtain ⟨u, hu, e⟩ := List.mem_map.1 hm
    obtain ⟨h1, h2⟩ := mem_fires.1 hu
    obtain ⟨h3, h4⟩ := mem_stay.1 ht
    rw [one_of h.nd h1 h3 e] at h2
    exact h4 h2
  refine ⟨g1, fun t ht => ?_, fun j hj => ?_, nd_filter h.nd _, ?_, fun t ht => ?_, by show s.now + 1 < _; omega⟩
  · have ht : t ∈ s.stay := ht
    show (goneL s.a _).at_ t.i = t.k ∧ _
    rw [g2, if_neg (hout t ht)]
    exact h.ent t (mem_stay.1 ht).1
  · have hj : (goneL s.a (s.fires.map Tm.i)).at_ j ≠ 0 := hj
    rw [g2] at hj
    split at hj
    · exact absurd rfl hj
    · rename_i hm
      obtain ⟨t, ht, e⟩ := h.all j hj
      refine ⟨t, mem_stay.2 ⟨ht, fun e2 => hm ?_⟩, e⟩
      exact List.mem_map.2 ⟨t, mem_fires.2 ⟨ht, e2⟩, e⟩
  · show s.stay.length = (goneL s.a _).count
    rw [List.length_map] at g3
    have := h.cnt
    omega
  · obtain ⟨h1, h2⟩ := mem_stay.1 ht
    have := h.fut t h1
    show s.now + 1 < t.at_ ∧ _
    omega
theorem ok_tick {s : Wh} (h : s.Ok) : s.tick.Ok := by
  unfold tick
  split
  · exact h
  · rename_i e
    have := h.now
    unfold lastT at e
    exact ok_ticked h (by omega)
theorem ok_skip {s : Wh} (h : s.Ok) {to : Nat} (ht : to < 18446744073709551616) : (s.skip to).Ok := by
  unfold skip
  split
  · rename_i e
    unfold skipE at e
    split at e
    · rename_i e0
      have hl : s.l = [] := List.eq_nil_of_length_eq_zero e0
      refine ⟨h.a, h.ent, h.all, h.nd, h.cnt, fun t q => ?_, ht⟩
      have q : t ∈ s.l := q
      rw [hl] at q
      cases q
    · cases e
  · exact h
/-- What may be asked of a wheel. -/
structure Fit (s : Wh) (m : Nat) : Prop where
  ok : s.Ok
  n : s.a.has.length ≤ 65536
  ser : s.a.serial ≤ m
  tn : s.tn ≤ m
  m : m ≤ 4611686018427387904
theorem Fit.more {s : Wh} {m m' : Nat} (h : s.Fit m) (hm : m ≤ m') (h9 : m' ≤ 4611686018427387904) : s.Fit m' := ⟨h.ok, h.n, Nat.le_trans h.ser hm, Nat.le_trans h.tn hm, h9⟩
theorem fit_arm {s : Wh} {m : Nat} (h : s.Fit m) (hm : m < 4611686018427387904) {at_ : Nat} (ha : at_ < 18446744073709551616) (what : Nat) : (s.arm at_ what).Fit (m + 1) := by
  have h1 := h.ser
  have h2 := h.tn
  refine ⟨ok_arm h.ok ha what, ?_, ?_, ?_, hm⟩ <;> unfold arm <;> split
  · exact h.n
  · split
    · exact h.n
    · show (s.a.taken _).has.length ≤ _
      unfold Ar.taken
      rw [List.length_set]
      exact h.n
  · omega
  · split
    · omega
    · show s.a.serial + 1 ≤ _
      omega
  · omega
  · split
    · omega
    · show s.tn + 1 ≤ _
      omega
theorem fit_again {s : Wh} {m : Nat} (h : s.Fit m) (hm : m < 4611686018427387904) (i : Int) (k : Nat) {at_ : Nat} (ha : at_ < 18446744073709551616) : (s.again i k at_).Fit (m + 1) := by
  have h1 := h.ser
  have h2 := h.tn
  have key : (s.again i k at_).a = s.a ∧ (s.again i k at_).tn ≤ s.tn + 1 := by
    unfold again
    split
    · exact ⟨rfl, by omega⟩
    · split
      · exact ⟨rfl, by omega⟩
      · exact ⟨rfl, Nat.le_refl _⟩
  exact ⟨ok_again h.ok i k ha, by rw [key.1]; exact h.n, by rw [key.1]; omega, by have := key.2; omega, hm⟩
theorem fit_cancel {s : Wh} {m : Nat} (h : s.Fit m) (i : Int) (k : Nat) : (s.cancel i k).Fit m := by
  have key : (s.cancel i k).a.has.length = s.a.has.length ∧ (s.cancel i k).a.serial = s.a.serial ∧ (s.cancel i k).tn = s.tn := by
    unfold cancel
    split
    · exact ⟨List.length_set, rfl, rfl⟩
    · exact ⟨rfl, rfl, rfl⟩
  exact ⟨ok_cancel h.ok i k, by rw [key.1]; exact h.n, by rw [key.2.1]; exact h.ser, by rw [key.2.2]; exact h.tn, h.m⟩
theorem fit_tick {s : Wh} {m : Nat} (h : s.Fit m) : s.tick.Fit m := by
  obtain ⟨f1, f2, f3⟩ := fires_facts h.ok
  obtain ⟨g1, g2, g3, g4, g5⟩ := goneL_facts _ s.a h.ok.a f1 f2
  have key : s.tick.a.has.length = s.a.has.length ∧ s.tick.a.serial = s.a.serial ∧ s.tick.tn = s.tn := by
    unfold tick
    split
    · exact ⟨rfl, rfl, rfl⟩
    · exact ⟨g5, g4, rfl⟩
  exact ⟨ok_tick h.ok, by rw [key.1]; exact h.n, by rw [key.2.1]; exact h.ser, by rw [key.2.2]; exact h.tn, h.m⟩
theorem fit_skip {s : Wh} {m : Nat} (h : s.Fit m) {to : Nat} (ht : to < 18446744073709551616) : (s.skip to).Fit m := by
  have key : (s.skip to).a = s.a ∧ (s.skip to).tn = s.tn := by
    unfold skip
    split <;> exact ⟨rfl, rfl⟩
  exact ⟨ok_skip h.ok ht, by rw [key.1]; exact h.n, by rw [key.1]; exact h.ser, by rw [key.2]; exact h.tn, h.m⟩
theorem fit_new {n : Nat} (h : n ≤ 65536) : (new n).Fit 0 := by
  refine ⟨ok_new n, ?_, Nat.le_refl _, Nat.le_refl _, by omega⟩
  show (List.replicate n 0).length ≤ _
  rw [List.length_replicate]
  exact h
end Wh
end Go.Proofs.Ytkmakdhlaenaoaa
/- Stage 10's pure words: slots as the document defines them (of each list its cells), what push, pop and remove do to them, and what always holds; rings of links. -/
namespace Go.Proofs.Ytkmakdhlaenaoaa
structure Sl where
  ls : List (List Nat)
  cells : Nat

namespace Sl
def new (n c : Nat) : Sl := ⟨List.replicate n [], c⟩
def at_ (s : Sl) (i : Nat) : List Nat := (s.ls[i]?).getD []
/-- The cells of a list that may be none. -/
def of_ (s : Sl) (i : Int) : List Nat := if 0 ≤ i then s.at_ i.toNat else []
def whr (s : Sl) (c : Nat) : Option Nat := s.ls.findIdx? (fun l => l.contains c)
def put (s : Sl) (i : Nat) (l : List Nat) : Sl := ⟨s.ls.set i l, s.cells⟩
def hasL (s : Sl) (i : Int) : Bool := decide (0 ≤ i) && decide (i < (s.ls.length : Int))
def hasC (s : Sl) (c : Int) : Bool := decide (0 ≤ c) && decide (c < (s.cells : Int))
/-- The list of a cell that may be none, if there is one. -/
def whi (s : Sl) (c : Int) : Option Nat := if 0 ≤ c then s.whr c.toNat else none
def pushE (s : Sl) (l c : Int) : Int := if s.hasL l && s.hasC c then (if (s.whr c.toNat).isSome then 8 else 0) else 2
def push (s : Sl) (l c : Int) : Sl := if s.pushE l c = 0 then s.put l.toNat (s.at_ l.toNat ++ [c.toNat]) else s
def remE (s : Sl) (c : Int) : Int := if s.hasC c then (if (s.whr c.toNat).isSome then 0 else 7) else 2
def rem (s : Sl) (c : Int) : Sl := match s.whi c with
  | some i => s.put i ((s.at_ i).filter (· != c.toNat))
  | none => s
def pop (s : Sl) (l : Int) : Sl := match s.of_ l with
  | [] => s
  | _ :: t => s.put l.toNat t
structure Ok (s : Sl) : Prop where
  low : ∀ i c, c ∈ s.at_ i → c < s.cells
  nodup : ∀ i, (s.at_ i).Nodup
  one : ∀ i j c, c ∈ s.at_ i → c ∈ s.at_ j → i = j
theorem at_out {s : Sl} {i : Nat} (h : s.ls.length ≤ i) : s.at_ i = [] := by
  unfold at_
  rw [List.getElem?_eq_none h]; rfl
theorem at_lt {s : Sl} {i c : Nat} (h : c ∈ s.at_ i) : i < s.ls.length := by
  rcases Nat.lt_or_ge i s.ls.length with q | q
  · exact q
  · rw [at_out q] at h
    cases h
theorem at_put {s : Sl} {i : Nat} (hi : i < s.ls.length) (l : List Nat) (j : Nat) : (s.put i l).at_ j = if j = i then l else s.at_ j := by
  unfold at_ put
  simp only
  rw [List.getElem?_set]
  by_cases h : i = j
  · subst h; simp [hi]
  · have h' : ¬ j = i := fun e => h e.symm
    simp [h, h']
theorem put_len (s : Sl) (i : Nat) (l : List Nat) : (s.put i l).ls.length = s.ls.length := List.length_set
theorem at_new (n c i : Nat) : (new n c).at_ i = [] := by
  unfold at_ new
  simp only
  rw [List.getElem?_replicate]
  split <;> rfl
theorem ok_new (n c : Nat) : (new n c).Ok :=
  ⟨fun i x h => (by rw [at_new] at h; cases h), fun i => (by rw [at_new]; exact List.nodup_nil), fun i j x h => (by rw [at_new] at h; cases h)⟩
theorem whr_some {s : Sl} (hs : s.Ok) {c i : Nat} : s.whr c = some i ↔ c ∈ s.at_ i := by
  unfold whr
  rw [List.findIdx?_eq_some_iff_getElem]
  constructor
  · rintro ⟨h, h1, _⟩
    unfold at_
    rw [List.getElem?_eq_getElem h]
    simpa using h1
  · intro h
    have hi := at_lt h
    have h0 := h
    unfold at_ at h
    rw [List.getElem?_eq_getElem hi] at h
    refine ⟨hi, by simpa using h, fun j hj => ?_⟩
    have hjl : j < s.ls.length := by omega
    intro hc
    have : c ∈ s.at_ j := by
      unfold at_
      rw [List.getElem?_eq_getElem hjl]
      simpa using hc
    have := hs.one _ _ _ this h0
    omega
theorem whr_none {s : Sl} {c : Nat} : s.whr c = none ↔ ∀ i, ¬ c ∈ s.at_ i := by
  unfold whr
  rw [List.findIdx?_eq_none_iff]
  constructor
  · intro h i hi
    have hl := at_lt hi
    unfold at_ at hi
    rw [List.getElem?_eq_getElem hl] at hi
    have := h _ (List.getElem_mem hl)
    simp at this
    exact this hi
  · intro h x hx
    obtain ⟨i, hi, rfl⟩ := List.getElem_of_mem hx
    have := h i
    unfold at_ at this
    rw [List.getElem?_eq_getElem hi] at this
    simpa using this
theorem ok_put {s : Sl} (hs : s.Ok) {i : Nat} (hi : i < s.ls.length) {l : List Nat} (hn : l.Nodup) (hl : ∀ c, c ∈ l → c < s.cells) (ho : ∀ c j, c ∈ l → c ∈ s.at_ j → j = i) : (s.put i l).Ok := by
  have ha := at_put hi l
  refine ⟨fun j c h => ?_, fun j => ?_, fun j k c h1 h2 => ?_⟩
  · rw [ha] at h
    split at h
    · exact hl c h
    · exact hs.low j c h
  · rw [ha]
    split
    · exact hn
    · exact hs.nodup j
  · rw [ha] at h1 h2
    split at h1 <;> split at h2
    · omega
    · rename_i e _
      rw [ho c k h1 h2, e]
    · rename_i e
      rw [ho c j h2 h1, e]
    · exact hs.one j k c h1 h2
theorem ok_push {s : Sl} (hs : s.Ok) (l c : Int) : (s.push l c).Ok := by
  unfold push
  split
  · rename_i h
    unfold pushE at h
    split at h
    · rename_i hh
      split at h
      · cases h
      · rename_i hw
        simp [hasL, hasC] at hh
        have hw' : s.whr c.toNat = none := by simpa using hw
        rw [whr_none] at hw'
        refine ok_put hs (by omega) ?_ ?_ ?_
        · rw [List.nodup_append]
          refine ⟨hs.nodup _, by simp, fun a ha b hb e => ?_⟩
          simp at hb
          subst hb; subst e
          exact hw' _ ha
        · intro d hd
          rcases List.mem_append.1 hd with hd | hd
          · exact hs.low _ _ hd
          · simp at hd
            omega
        · intro d j hd hj
          rcases List.mem_append.1 hd with hd | hd
          · exact hs.one _ _ _ hj hd
          · simp at hd
            subst hd
            exact absurd hj (hw' j)
    · cases h
  · exact hs
theorem ok_rem {s : Sl} (hs : s.Ok) (c : Int) : (s.rem c).Ok := by
  unfold rem
  split
  · rename_i i h
    unfold whi at h
    split at h
    · rw [whr_some hs] at h
      refine ok_put hs (at_lt h) ((hs.nodup i).filter _) ?_ ?_
      · intro d hd
        exact hs.low i d (List.mem_filter.1 hd).1
      · intro d j hd hj
        exact hs.one _ _ _ hj (List.mem_filter.1 hd).1
    · cases h
  · exact hs
theorem of_some {s : Sl} {l : Int} {x : Nat} {t : List Nat} (h : s.of_ l = x :: t) : 0 ≤ l ∧ l.toNat < s.ls.length ∧ s.at_ l.toNat = x :: t := by
  unfold of_ at h
  split at h
  · rename_i h0
    exact ⟨h0, at_lt (c := x) (by rw [h]; simp), h⟩
  · cases h
theorem ok_pop {s : Sl} (hs : s.Ok) (l : Int) : (s.pop l).Ok := by
  unfold pop
  split
  · exact hs
  · rename_i x t h
    obtain ⟨h0, h1, h2⟩ := of_some h
    have hn := hs.nodup l.toNat
    rw [h2] at hn
    refine ok_put hs h1 (List.nodup_cons.1 hn).2 ?_ ?_
    · intro d hd
      exact hs.low l.toNat d (by rw [h2]; exact List.mem_cons_of_mem _ hd)
    · intro d j hd hj
      exact hs.one _ _ _ hj (by rw [h2]; exact List.mem_cons_of_mem _ hd)
theorem push_len (s : Sl) (l c : Int) : (s.push l c).ls.length = s.ls.length := by
  unfold push; split
  · exact put_len ..
  · rfl
theorem push_cells (s : Sl) (l c : Int) : (s.push l c).cells = s.cells := by unfold push; split <;> rfl
theorem rem_len (s : Sl) (c : Int) : (s.rem c).ls.length = s.ls.length := by
  unfold rem; split
  · exact put_len ..
  · rfl
theorem rem_cells (s : Sl) (c : Int) : (s.rem c).cells = s.cells := by unfold rem; split <;> rfl
theorem pop_len (s : Sl) (l : Int) : (s.pop l).ls.length = s.ls.length := by
  unfold pop; split
  · rfl
  · exact put_len ..
theorem pop_cells (s : Sl) (l : Int) : (s.pop l).cells = s.cells := by unfold pop; split <;> rfl
theorem nodup_bound : ∀ (n : Nat) (l : List Nat), l.Nodup → (∀ c, c ∈ l → c < n) → l.length ≤ n
  | 0, [], _, _ => Nat.le_refl _
  | 0, c :: _, _, h => absurd (h c (List.mem_cons_self ..)) (Nat.not_lt_zero _)
  | n + 1, l, hn, h => by
    have h2 := nodup_bound n (l.erase n) (hn.erase n) (fun c hc => by
      have h3 := (hn.mem_erase_iff).1 hc
      have := h c h3.2
      have := h3.1
      omega)
    have h3 := List.length_erase (a := n) (l := l)
    split at h3 <;> omega
/-- A list has at most as many as there are cells. -/
theorem at_length {s : Sl} (hs : s.Ok) (i : Nat) : (s.at_ i).length ≤ s.cells := nodup_bound _ _ (hs.nodup i) (hs.low i)
end Sl

/-! Rings. -/
/-- From a on, linked both ways, cells of a list, to b. -/
def Ch (nx pv : Nat → Nat) : Nat → List Nat → Nat → Prop
  | a, [], b => nx a = b ∧ pv b = a
  | a, x :: t, b => nx a = x ∧ pv x = a ∧ Ch nx pv x t b
/-- The last one, or a. -/
def lastOr : Nat → List Nat → Nat
  | a, [] => a
  | _, x :: t => lastOr x t
theorem lastOr_mem : ∀ (a : Nat) (l : List Nat), lastOr a l = a ∨ lastOr a l ∈ l
  | a, [] => .inl rfl
  | a, x :: t => by
    rcases lastOr_mem x t with h | h
    · right
      show lastOr x t ∈ x :: t
      rw [h]
      exact List.mem_cons_self ..
    · right
      exact List.mem_cons_of_mem _ h
theorem lastOr_app : ∀ (a : Nat) (l m : List Nat), lastOr a (l ++ m) = lastOr (lastOr a l) m
  | _, [], _ => rfl
  | _, x :: t, m => lastOr_app x t m
theorem Ch.app {nx pv : Nat → Nat} {x : Nat} {t : List Nat} {b : Nat} : ∀ {a : Nat} {l : List Nat}, Ch nx pv a (l ++ x :: t) b ↔ Ch nx pv a l x ∧ Ch nx pv x t b
  | _, [] => ⟨fun h => ⟨⟨h.1, h.2.1⟩, h.2.2⟩, fun h => ⟨h.1.1, h.1.2, h.2⟩⟩
  | a, y :: l => by
    show (nx a = y ∧ pv y = a ∧ Ch nx pv y (l ++ x :: t) b) ↔ (nx a = y ∧ pv y = a ∧ Ch nx pv y l x) ∧ _
    rw [Ch.app (a := y) (l := l)]
    exact ⟨fun h => ⟨⟨h.1, h.2.1, h.2.2.1⟩, h.2.2.2⟩, fun h => ⟨h.1.1, h.1.2.1, h.1.2.2, h.2⟩⟩
theorem Ch.ends {nx pv : Nat → Nat} {b : Nat} : ∀ {a : Nat} {l : List Nat}, Ch nx pv a l b → nx (lastOr a l) = b ∧ pv b = lastOr a l
  | _, [], h => h
  | _, x :: t, h => Ch.ends (a := x) (l := t) h.2.2
theorem Ch.same {nx pv nx' pv' : Nat → Nat} {b : Nat} : ∀ {a : Nat} {l : List Nat}, Ch nx pv a l b → (∀ k, k = a ∨ k ∈ l → nx' k = nx k) → (∀ k, k ∈ l ∨ k = b → pv' k = pv k) → Ch nx' pv' a l b
  | a, [], h, h1, h2 => ⟨(h1 a (.inl rfl)).trans h.1, (h2 b (.inr rfl)).trans h.2⟩
  | a, x :: t, h, h1, h2 => ⟨(h1 a (.inl rfl)).trans h.1, (h2 x (.inl (List.mem_cons_self ..))).trans h.2.1, Ch.same (a := x) (l := t) h.2.2
      (fun k hk => h1 k (.inr (by rcases hk with rfl | hk; exact List.mem_cons_self ..; exact List.mem_cons_of_mem _ hk)))
      (fun k hk => h2 k (hk.imp (List.mem_cons_of_mem _) id))⟩
/-- The end is another one. -/
theorem Ch.relink {nx pv nx' pv' : Nat → Nat} {b b' : Nat} : ∀ {a : Nat} {l : List Nat}, Ch nx pv a l b → (a :: l).Nodup → (∀ k, k = a ∨ k ∈ l → k ≠ lastOr a l → nx' k = nx k) → (∀ k, k ∈ l → pv' k = pv k) →
    nx' (lastOr a l) = b' → pv' b' = lastOr a l → Ch nx' pv' a l b'
  | a, [], h, _, h1, h2, h3, h4 => ⟨h3, h4⟩
  | a, x :: t, h, hn, h1, h2, h3, h4 => by
    have hne : a ≠ lastOr x t := fun e => by
      rcases lastOr_mem x t with q | q
      · rw [q] at e
        subst e
        exact (List.nodup_cons.1 hn).1 (List.mem_cons_self ..)
      · rw [← e] at q
        exact (List.nodup_cons.1 hn).1 (List.mem_cons_of_mem _ q)
    refine ⟨(h1 a (.inl rfl) hne).trans h.1, (h2 x (List.mem_cons_self ..)).trans h.2.1, Ch.relink (a := x) (l := t) h.2.2 (List.nodup_cons.1 hn).2 (fun k hk => h1 k (.inr (by rcases hk with rfl | hk; exact List.mem_cons_self ..; exact List.mem_cons_of_mem _ hk))) (fun k hk => h2 k (List.mem_cons_of_mem _ hk)) h3 h4⟩
/-- The one behind the ones of l. -/
def hdOr : List Nat → Nat → Nat
  | [], b => b
  | x :: _, _ => x
theorem Ch.first {nx pv : Nat → Nat} {a b : Nat} {l : List Nat} (h : Ch nx pv a l b) : nx a = hdOr l b := by
  cases l with
  | nil => exact h.1
  | cons x t => exact h.1
/-- x is taken out. -/
theorem Ch.cut {nx pv nx' pv' : Nat → Nat} {o x : Nat} {ys zs : List Nat} (h : Ch nx pv o (ys ++ x :: zs) o) (hn : (o :: (ys ++ x :: zs)).Nodup)
    (h1 : ∀ k, k ≠ lastOr o ys → k ≠ x → nx' k = nx k) (h2 : ∀ k, k ≠ hdOr zs o → k ≠ x → pv' k = pv k) (h3 : nx' (lastOr o ys) = hdOr zs o) (h4 : pv' (hdOr zs o) = lastOr o ys) : Ch nx' pv' o (ys ++ zs) o := by
  obtain ⟨ha, hb⟩ := Ch.app.1 h
  have hn1 : (o :: ys).Nodup := by
    have := hn
    rw [← List.cons_append, List.nodup_append] at this
    exact this.1
  rw [← List.cons_append, List.nodup_append] at hn
  obtain ⟨_, hn2, hd⟩ := hn
  have hxy : ∀ k, k ∈ o :: ys → k ≠ x := fun k hk e => hd k hk x (List.mem_cons_self ..) e
  cases zs with
  | nil =>
    rw [List.append_nil]
    refine ha.relink hn1 (fun k hk hl => h1 k hl (hxy k ?_)) (fun k hk => h2 k ?_ (hxy k (List.mem_cons_of_mem _ hk))) h3 h4
    · rcases hk with rfl | hk
      · exact List.mem_cons_self ..
      · exact List.mem_cons_of_mem _ hk
    · show k ≠ o
      intro e
      subst e
      exact (List.nodup_cons.1 hn1).1 hk
  | cons z t =>
    have hz : ∀ k, k ∈ z :: t → ¬ k ∈ o :: ys := fun k hk hy => hd k hy k (List.mem_cons_of_mem _ hk) rfl
    have hl : lastOr o ys ∈ o :: ys := by
      rcases lastOr_mem o ys with q | q
      · rw [q]
        exact List.mem_cons_self ..
      · exact List.mem_cons_of_mem _ q
    have hxn := (List.nodup_cons.1 hn2).1
    have hzt := (List.nodup_cons.1 hn2).2
    refine Ch.app.2 ⟨?_, ?_⟩
    · refine ha.relink hn1 (fun k hk hl => h1 k hl (hxy k ?_)) (fun k hk => h2 k ?_ (hxy k (List.mem_cons_of_mem _ hk))) h3 h4
      · rcases hk with rfl | hk
        · exact List.mem_cons_self ..
        · exact List.mem_cons_of_mem _ hk
      · show k ≠ z
        intro e
        subst e
        exact hz k (List.mem_cons_self ..) (List.mem_cons_of_mem _ hk)
    · refine hb.2.2.same (fun k hk => h1 k ?_ ?_) (fun k hk => h2 k ?_ ?_)
      · intro e
        have hk' : k ∈ z :: t := by
          rcases hk with rfl | hk
          · exact List.mem_cons_self ..
          · exact List.mem_cons_of_mem _ hk
        exact hz k hk' (by rw [e]; exact hl)
      · intro e
        subst e
        refine hxn ?_
        rcases hk with e | hk
        · rw [e]
          exact List.mem_cons_self ..
        · exact List.mem_cons_of_mem _ hk
      · show k ≠ z
        intro e
        subst e
        rcases hk with hk | hk
        · exact (List.nodup_cons.1 hzt).1 hk
        · exact hz k (List.mem_cons_self ..) (by rw [hk]; exact List.mem_cons_self ..)
      · intro e
        subst e
        rcases hk with hk | hk
        · exact hxn (List.mem_cons_of_mem _ hk)
        · exact hxy o (List.mem_cons_self ..) hk.symm
/-- c is put behind the last one. -/
theorem Ch.push {nx pv nx' pv' : Nat → Nat} {o c : Nat} {l : List Nat} (h : Ch nx pv o l o) (hn : (o :: l).Nodup) (hc : ¬ c ∈ o :: l)
    (h1 : ∀ k, k ≠ lastOr o l → k ≠ c → nx' k = nx k) (h2 : ∀ k, k ≠ o → k ≠ c → pv' k = pv k) (h3 : nx' (lastOr o l) = c) (h4 : pv' c = lastOr o l) (h5 : nx' c = o) (h6 : pv' o = c) : Ch nx' pv' o (l ++ [c]) o := by
  refine Ch.app.2 ⟨?_, h5, h6⟩
  refine h.relink hn (fun k hk hl => h1 k hl ?_) (fun k hk => h2 k ?_ ?_) h3 h4
  · intro e
    subst e
    refine hc ?_
    rcases hk with e | hk
    · rw [e]
      exact List.mem_cons_self ..
    · exact List.mem_cons_of_mem _ hk
  · intro e
    subst e
    exact (List.nodup_cons.1 hn).1 hk
  · intro e
    subst e
    exact hc (List.mem_cons_of_mem _ hk)
end Go.Proofs.Ytkmakdhlaenaoaa
/- Stage 10: the landed slots' fields stand for slots as the document has them: what a push, an unlinking do to them; pure. -/
namespace Go.Proofs.Ytkmakdhlaenaoaa
namespace Sl
theorem whr_put {s : Sl} (hs : s.Ok) {i : Nat} (hi : i < s.ls.length) {l : List Nat} (ho : (s.put i l).Ok) (k : Nat) : (s.put i l).whr k = if k ∈ l then some i else if s.whr k = some i then none else s.whr k := by
  have ha := at_put hi l
  by_cases h1 : k ∈ l
  · rw [if_pos h1, whr_some ho, ha, if_pos rfl]
    exact h1
  · rw [if_neg h1]
    by_cases h2 : s.whr k = some i
    · rw [if_pos h2, whr_none]
      intro j hj
      rw [ha] at hj
      split at hj
      · exact h1 hj
      · rename_i hne
        rw [whr_some hs] at h2
        exact hne (hs.one _ _ _ hj h2)
    · rw [if_neg h2]
      cases hw : s.whr k with
      | none =>
        rw [whr_none] at hw ⊢
        intro j hj
        rw [ha] at hj
        split at hj
        · exact h1 hj
        · exact hw j hj
      | some j =>
        have hne : ¬ j = i := fun e => h2 (by rw [hw, e])
        rw [whr_some ho, ha, if_neg hne]
        exact (whr_some hs).1 hw
end Sl
/-- The landed slots' fields stand for s. -/
structure SRep (s : Sl) (fl : Nat → Int) (pv nx sz : Nat → Nat) : Prop where
  lst : ∀ k, k < s.cells → fl k = match s.whr k with
    | some i => (i : Int)
    | none => -1
  ring : ∀ i, i < s.ls.length → Ch nx pv (s.cells + i) (s.at_ i) (s.cells + i)
  size : ∀ i, i < s.ls.length → sz i = (s.at_ i).length
/-- A ring's nodes are no two alike. -/
theorem ring_nodup {s : Sl} (hs : s.Ok) (i : Nat) : ((s.cells + i) :: s.at_ i).Nodup :=
  List.nodup_cons.2 ⟨fun h => by have := hs.low i _ h; omega, hs.nodup i⟩
theorem ring_other {s : Sl} (hs : s.Ok) {i j : Nat} (hij : i ≠ j) {k : Nat} (hk : k ∈ (s.cells + i) :: s.at_ i) : ¬ k ∈ (s.cells + j) :: s.at_ j := fun h => by
  rcases List.mem_cons.1 hk with rfl | hk
  · rcases List.mem_cons.1 h with e | h
    · omega
    · have := hs.low j _ h
      omega
  · rcases List.mem_cons.1 h with rfl | h
    · have := hs.low i _ hk
      omega
    · exact hij (hs.one _ _ _ hk h)
theorem SRep.same_ring {s : Sl} {fl : Nat → Int} {pv nx sz : Nat → Nat} (h : SRep s fl pv nx sz) {j : Nat} (hj : j < s.ls.length) {nx' pv' : Nat → Nat} (hn : ∀ k, k ∈ (s.cells + j) :: s.at_ j → nx' k = nx k) (hp : ∀ k, k ∈ (s.cells + j) :: s.at_ j → pv' k = pv k) :
    Ch nx' pv' (s.cells + j) (s.at_ j) (s.cells + j) := (h.ring j hj).same
  (fun k hk => hn k (by rcases hk with rfl | hk; exact List.mem_cons_self ..; exact List.mem_cons_of_mem _ hk))
  (fun k hk => hp k (by rcases hk with hk | rfl; exact List.mem_cons_of_mem _ hk; exact List.mem_cons_self ..))
theorem SRep.last {s : Sl} {fl : Nat → Int} {pv nx sz : Nat → Nat} (h : SRep s fl pv nx sz) {i : Nat} (hi : i < s.ls.length) : pv (s.cells + i) = lastOr (s.cells + i) (s.at_ i) := (h.ring i hi).ends.2
theorem last_node {o : Nat} {l : List Nat} : lastOr o l ∈ o :: l := by
  rcases lastOr_mem o l with q | q
  · rw [q]
    exact List.mem_cons_self ..
  · exact List.mem_cons_of_mem _ q
def updN (f : Nat → Nat) (k v : Nat) : Nat → Nat := fun j => if j = k then v else f j
def updI (f : Nat → Int) (k : Nat) (v : Int) : Nat → Int := fun j => if j = k then v else f j
theorem updN_same (f : Nat → Nat) (k v : Nat) : updN f k v k = v := if_pos rfl
theorem updN_ne {f : Nat → Nat} {k v j : Nat} (h : j ≠ k) : updN f k v j = f j := if_neg h
theorem ok_pushed {s : Sl} (hs : s.Ok) {i c : Nat} (hi : i < s.ls.length) (hc : c < s.cells) (hw : s.whr c = none) : (s.put i (s.at_ i ++ [c])).Ok := by
  rw [Sl.whr_none] at hw
  refine Sl.ok_put hs hi ?_ (fun d hd => ?_) fun d j hd hj => ?_
  · rw [List.nodup_append]
    refine ⟨hs.nodup _, by simp, fun a ha b hb e => ?_⟩
    simp at hb
    subst hb; subst e
    exact hw _ ha
  · rcases List.mem_append.1 hd with hd | hd
    · exact hs.low _ _ hd
    · simp at hd
      omega
  · rcases List.mem_append.1 hd with hd | hd
    · exact hs.one _ _ _ hj hd
    · simp at hd
      subst hd
      exact absurd hj (hw j)
theorem SRep.push {s : Sl} {fl : Nat → Int} {pv nx sz : Nat → Nat} (h : SRep s fl pv nx sz) (hs : s.Ok) {i c la : Nat} (hi : i < s.ls.length) (hc : c < s.cells) (hw : s.whr c = none) (hla : la = pv (s.cells + i)) :
    SRep (s.put i (s.at_ i ++ [c])) (updI fl c (i : Int)) (updN (updN pv c la) (s.cells + i) c) (updN (updN nx c (s.cells + i)) la c) (updN sz i (sz i + 1)) := by
  have hok := ok_pushed hs hi hc hw
  have hw' := Sl.whr_none.1 hw
  have hl := h.last hi
  rw [← hla] at hl
  have hcn : ∀ j, ¬ c ∈ (s.cells + j) :: s.at_ j := fun j hm => by
    rcases List.mem_cons.1 hm with e | hm
    · omega
    · exact hw' j hm
  have hlm : la ∈ (s.cells + i) :: s.at_ i := by
    rw [hl]
    exact last_node
  have hlc : la ≠ c := fun e => hcn i (e ▸ hlm)
  have hoc : s.cells + i ≠ c := by omega
  refine ⟨fun k hk => ?_, fun j hj => ?_, fun j hj => ?_⟩
  · rw [Sl.whr_put hs hi hok]
    unfold updI
    by_cases hkc : k = c
    · subst hkc
      rw [if_pos rfl, if_pos (by simp)]
    · rw [if_neg hkc, h.lst k hk]
      by_cases hm : k ∈ s.at_ i
      · rw [if_pos (List.mem_append_left _ hm), (Sl.whr_some hs).2 hm]
      · rw [if_neg (by simp [hm, hkc]), if_neg (fun e => hm ((Sl.whr_some hs).1 e))]
  · have hj' : j < s.ls.length := by rwa [Sl.put_len] at hj
    show Ch _ _ (s.cells + j) _ (s.cells + j)
    rw [Sl.at_put hi]
    by_cases e : j = i
    · subst e
      rw [if_pos rfl]
      refine (h.ring j hj').push (ring_nodup hs j) (hcn j) (fun k h1 h2 => ?_) (fun k h1 h2 => ?_) ?_ ?_ ?_ ?_
      · rw [updN_ne (by rw [hl]; exact h1), updN_ne h2]
      · rw [updN_ne h1, updN_ne h2]
      · rw [← hl, updN_same]
      · rw [updN_ne (Ne.symm hoc), updN_same, hl]
      · rw [updN_ne (Ne.symm hlc), updN_same]
      · rw [updN_same]
    · rw [if_neg e]
      refine h.same_ring hj' (fun k hk => ?_) fun k hk => ?_
      · have q1 : k ≠ la := fun q => ring_other hs (Ne.symm e) hlm (q ▸ hk)
        have q2 : k ≠ c := fun q => hcn j (q ▸ hk)
        rw [updN_ne q1, updN_ne q2]
      · have q1 : k ≠ s.cells + i := fun q => ring_other hs (Ne.symm e) (List.mem_cons_self ..) (q ▸ hk)
        have q2 : k ≠ c := fun q => hcn j (q ▸ hk)
        rw [updN_ne q1, updN_ne q2]
  · have hj' : j < s.ls.length := by rwa [Sl.put_len] at hj
    rw [Sl.at_put hi]
    unfold updN
    by_cases e : j = i
    · subst e
      rw [if_pos rfl, if_pos rfl, List.length_append, h.size j hj']
      rfl
    · rw [if_neg e, if_neg e]
      exact h.size j hj'
theorem filter_mid {ys zs : List Nat} {c : Nat} (h : (ys ++ c :: zs).Nodup) : (ys ++ c :: zs).filter (· != c) = ys ++ zs := by
  rw [List.nodup_append] at h
  obtain ⟨_, h2, h3⟩ := h
  have h4 := (List.nodup_cons.1 h2).1
  rw [List.filter_append, List.filter_cons_of_neg (by simp), List.filter_eq_self.2, List.filter_eq_self.2]
  · intro x hx
    simp only [bne_iff_ne, ne_eq]
    rintro rfl
    exact h4 hx
  · intro x hx
    simp only [bne_iff_ne, ne_eq]
    rintro rfl
    exact h3 x hx x (List.mem_cons_self ..) rfl
theorem ok_cut {s : Sl} (hs : s.Ok) {i c : Nat} (hi : i < s.ls.length) : (s.put i ((s.at_ i).filter (· != c))).Ok := by
  refine Sl.ok_put hs hi ((hs.nodup i).filter _) (fun d hd => hs.low i d (List.mem_filter.1 hd).1) fun d j hd hj => hs.one _ _ _ hj (List.mem_filter.1 hd).1
/-- The neighbours of a cell in a ring. -/
theorem SRep.mid {s : Sl} {fl : Nat → Int} {pv nx sz : Nat → Nat} (h : SRep s fl pv nx sz) {i c : Nat} (hi : i < s.ls.length) {ys zs : List Nat} (he : s.at_ i = ys ++ c :: zs) : pv c = lastOr (s.cells + i) ys ∧ nx c = hdOr zs (s.cells + i) := by
  have hr := h.ring i hi
  rw [he] at hr
  obtain ⟨ha, hb⟩ := Ch.app.1 hr
  exact ⟨ha.ends.2, hb.first⟩
theorem SRep.node {s : Sl} {fl : Nat → Int} {pv nx sz : Nat → Nat} (h : SRep s fl pv nx sz) {i c : Nat} (hi : i < s.ls.length) (hc : c ∈ s.at_ i) : pv c ∈ (s.cells + i) :: s.at_ i ∧ nx c ∈ (s.cells + i) :: s.at_ i := by
  obtain ⟨ys, zs, he⟩ := List.append_of_mem hc
  obtain ⟨h1, h2⟩ := h.mid hi he
  rw [h1, h2, he]
  constructor
  · rcases lastOr_mem (s.cells + i) ys with q | q
    · rw [q]
      exact List.mem_cons_self ..
    · exact List.mem_cons_of_mem _ (List.mem_append_left _ q)
  · cases zs with
    | nil => exact List.mem_cons_self ..
    | cons z t => exact List.mem_cons_of_mem _ (List.mem_append_right _ (List.mem_cons_of_mem _ (List.mem_cons_self ..)))
theorem SRep.cut {s : Sl} {fl : Nat → Int} {pv nx sz : Nat → Nat} (h : SRep s fl pv nx sz) (hs : s.Ok) {i c : Nat} (hi : i < s.ls.length) (hc : c ∈ s.at_ i) :
    SRep (s.put i ((s.at_ i).filter (· != c))) (updI fl c (-1)) (updN (updN pv (nx c) (pv c)) c 0) (updN (updN nx (pv c) (nx c)) c 0) (updN sz i (sz i - 1)) := by
  have hok := ok_cut (c := c) hs hi
  obtain ⟨hp, hn⟩ := h.node hi hc
  obtain ⟨ys, zs, he⟩ := List.append_of_mem hc
  obtain ⟨h1, h2⟩ := h.mid hi he
  have hnd := ring_nodup hs i
  have hfm : (s.at_ i).filter (· != c) = ys ++ zs := by
    rw [he]
    refine filter_mid ?_
    rw [← he]
    exact hs.nodup i
  have hcm : ∀ j, j ≠ i → ¬ c ∈ (s.cells + j) :: s.at_ j := fun j hj hm => ring_other hs (Ne.symm hj) (List.mem_cons_of_mem _ hc) hm
  refine ⟨fun k hk => ?_, fun j hj => ?_, fun j hj => ?_⟩
  · rw [Sl.whr_put hs hi hok]
    unfold updI
    by_cases hkc : k = c
    · subst hkc
      rw [if_pos rfl, if_neg (by simp), if_pos ((Sl.whr_some hs).2 hc)]
    · rw [if_neg hkc, h.lst k hk]
      by_cases hm : k ∈ s.at_ i
      · rw [if_pos (List.mem_filter.2 ⟨hm, by simp [hkc]⟩), (Sl.whr_some hs).2 hm]
      · rw [if_neg (fun e => hm (List.mem_filter.1 e).1), if_neg (fun e => hm ((Sl.whr_some hs).1 e))]
  · have hj' : j < s.ls.length := by rwa [Sl.put_len] at hj
    show Ch _ _ (s.cells + j) _ (s.cells + j)
    rw [Sl.at_put hi]
    by_cases e : j = i
    · subst e
      rw [if_pos rfl, hfm]
      have hr := h.ring j hj'
      rw [he] at hr hnd
      have hlc : lastOr (s.cells + j) ys ≠ c := fun q => by
        rw [← List.cons_append, List.nodup_append] at hnd
        refine hnd.2.2 _ ?_ c (List.mem_cons_self ..) q
        rcases lastOr_mem (s.cells + j) ys with q' | q'
        · rw [q']
          exact List.mem_cons_self ..
        · exact List.mem_cons_of_mem _ q'
      have hnc : hdOr zs (s.cells + j) ≠ c := fun q => by
        cases zs with
        | nil =>
          have q : s.cells + j = c := q
          have := hs.low j c (by rw [he]; simp)
          omega
        | cons z t =>
          have q : z = c := q
          subst q
          rw [← List.cons_append, List.nodup_append] at hnd
          exact (List.nodup_cons.1 hnd.2.1).1 (List.mem_cons_self ..)
      refine hr.cut hnd (fun k q1 q2 => ?_) (fun k q1 q2 => ?_) ?_ ?_
      · rw [updN_ne q2, h1, updN_ne q1]
      · rw [updN_ne q2, h2, updN_ne q1]
      · rw [updN_ne hlc, h1, updN_same, h2]
      · rw [updN_ne hnc, h2, updN_same, h1]
    · rw [if_neg e]
      refine h.same_ring hj' (fun k hk => ?_) fun k hk => ?_
      · have q1 : k ≠ c := fun q => hcm j e (q ▸ hk)
        have q2 : k ≠ pv c := fun q => ring_other hs (Ne.symm e) hp (q ▸ hk)
        rw [updN_ne q1, updN_ne q2]
      · have q1 : k ≠ c := fun q => hcm j e (q ▸ hk)
        have q2 : k ≠ nx c := fun q => ring_other hs (Ne.symm e) hn (q ▸ hk)
        rw [updN_ne q1, updN_ne q2]
  · have hj' : j < s.ls.length := by rwa [Sl.put_len] at hj
    rw [Sl.at_put hi]
    unfold updN
    by_cases e : j = i
    · subst e
      rw [if_pos rfl, if_pos rfl, hfm, h.size j hj', he]
      simp
    · rw [if_neg e, if_neg e]
      exact h.size j hj'
theorem srep_new (n m : Nat) : SRep (Sl.new n m) (fun k => if k < m then -1 else ((k - m : Nat) : Int)) (fun k => if k < m then 0 else k) (fun k => if k < m then 0 else k) (fun _ => 0) := by
  refine ⟨fun k hk => ?_, fun i hi => ?_, fun i hi => ?_⟩
  · have : (Sl.new n m).whr k = none := by
      rw [Sl.whr_none]
      intro i hi
      rw [Sl.at_new] at hi
      cases hi
    rw [this]
    exact if_pos hk
  · rw [Sl.at_new]
    have e : (fun k => if k < m then 0 else k) ((Sl.new n m).cells + i) = (Sl.new n m).cells + i := if_neg (show ¬ m + i < m by omega)
    exact ⟨e, e⟩
  · rw [Sl.at_new]
    rfl
end Go.Proofs.Ytkmakdhlaenaoaa
/- Stage 11's pure words: the wheel's lists: where the cells of timers lie, but for some that are out; what taking one out, laying one, emptying a list, taking and freeing cells do to that. -/
namespace Go.Proofs.Ytkmakdhlaenaoaa
theorem Sl.push_eq {S : Sl} {q i : Nat} (hq : q < S.ls.length) (hi : i < S.cells) (hw : S.whr i = none) : S.push (q : Int) (i : Int) = S.put q (S.at_ q ++ [i]) := by
  have e : S.pushE (q : Int) (i : Int) = 0 := by
    unfold Sl.pushE Sl.hasL Sl.hasC
    simp [hq, hi, hw]
  unfold Sl.push
  rw [if_pos e]
  rfl
theorem Sl.rem_eq {S : Sl} (hs : S.Ok) {q i : Nat} (hi : i ∈ S.at_ q) : S.rem (i : Int) = S.put q ((S.at_ q).filter (· != i)) := by
  have e : S.whi (i : Int) = some q := by
    unfold Sl.whi
    rw [if_pos (by omega)]
    simpa using (Sl.whr_some hs).2 hi
  unfold Sl.rem
  rw [e]
  rfl
theorem Sl.put_put' (S : Sl) (i : Nat) (a b : List Nat) : (S.put i a).put i b = S.put i b := by
  unfold Sl.put
  simp
theorem Sl.put_at (S : Sl) {i : Nat} (hi : i < S.ls.length) : S.put i (S.at_ i) = S := by
  obtain ⟨ls, m⟩ := S
  have hi : i < ls.length := hi
  unfold Sl.put Sl.at_
  simp [List.getElem?_eq_getElem hi]
theorem Sl.pop_eq {S : Sl} {q x : Nat} {t : List Nat} (h : S.at_ q = x :: t) : S.pop (q : Int) = S.put q t := by
  have e : S.of_ (q : Int) = x :: t := by
    unfold Sl.of_
    rw [if_pos (by omega)]
    simpa using h
  unfold Sl.pop
  rw [e]
  rfl
/-- Each timer's cell lies in a list of which L holds, but those of X, that lie in none. -/
structure Plc (L : Nat → Nat → Prop) (S : Sl) (a : Ar) (ta : Nat → Nat) (X : Nat → Prop) : Prop where
  ok : S.Ok
  cells : S.cells = a.has.length
  len : S.ls.length = 1024
  mem : ∀ q i, i ∈ S.at_ q → a.at_ i ≠ 0 ∧ ¬ X i
  out : ∀ i, X i → a.at_ i ≠ 0
  pl : ∀ i, a.at_ i ≠ 0 → ¬ X i → ∃ q, i ∈ S.at_ q ∧ L (ta i) q
section
variable {L L' : Nat → Nat → Prop} {S : Sl} {a : Ar} {ta ta' : Nat → Nat} {X Y : Nat → Prop}
theorem Plc.imp (h : Plc L S a ta X) (hL : ∀ i q, a.at_ i ≠ 0 → ¬ X i → i ∈ S.at_ q → L (ta i) q → L' (ta' i) q) : Plc L' S a ta' X :=
  ⟨h.ok, h.cells, h.len, h.mem, h.out, fun i hi hx => by
    obtain ⟨q, h1, h2⟩ := h.pl i hi hx
    exact ⟨q, h1, hL i q hi hx h1 h2⟩⟩
theorem Plc.iff (h : Plc L S a ta X) (hX : ∀ i, X i ↔ Y i) : Plc L S a ta Y := by
  have : X = Y := funext fun i => propext (hX i)
  rw [← this]
  exact h
theorem Plc.whr_out (h : Plc L S a ta X) {i : Nat} (hi : X i) : S.whr i = none := Sl.whr_none.2 fun q hq => (h.mem q i hq).2 hi
theorem Plc.whr_free (h : Plc L S a ta X) {i : Nat} (hi : a.at_ i = 0) : S.whr i = none := Sl.whr_none.2 fun q hq => (h.mem q i hq).1 hi
theorem Plc.lt (h : Plc L S a ta X) {i : Nat} (hi : a.at_ i ≠ 0) : i < S.cells := by
  rw [h.cells]
  rcases Nat.lt_or_ge i a.has.length with q | q
  · exact q
  · exact absurd (Ar.at_out q) hi
/-- One is taken out. -/
theorem Plc.rem (h : Plc L S a ta X) {i : Nat} (hi : a.at_ i ≠ 0) (hx : ¬ X i) : Plc L (S.rem (i : Int)) a ta (fun j => X j ∨ j = i) := by
  obtain ⟨q, hq, _⟩ := h.pl i hi hx
  have hlt := Sl.at_lt hq
  have ha := Sl.at_put hlt ((S.at_ q).filter (· != i))
  have ok2 := Sl.ok_rem h.ok (i : Int)
  rw [Sl.rem_eq h.ok hq] at *
  refine ⟨ok2, h.cells, (Sl.put_len ..).trans h.len, fun r j hj => ?_, fun j hj => ?_, fun j hj hn => ?_⟩
  · rw [ha] at hj
    split at hj
    · obtain ⟨h1, h2⟩ := List.mem_filter.1 hj
      obtain ⟨m1, m2⟩ := h.mem _ _ h1
      exact ⟨m1, fun hh => hh.elim m2 (by simpa using h2)⟩
    · rename_i hr
      obtain ⟨m1, m2⟩ := h.mem _ _ hj
      refine ⟨m1, fun hh => hh.elim m2 fun e => hr ?_⟩
      subst e
      exact h.ok.one _ _ _ hj hq
  · rcases hj with hj | rfl
    · exact h.out j hj
    · exact hi
  · obtain ⟨r, h1, h2⟩ := h.pl j hj fun hh => hn (.inl hh)
    refine ⟨r, ?_, h2⟩
    rw [ha]
    split
    · rename_i e
      subst e
      exact List.mem_filter.2 ⟨h1, by simpa using fun e => hn (.inr e)⟩
    · exact h1
/-- One that is out is laid. -/
theorem Plc.push (h : Plc L S a ta X) {i q : Nat} (hi : X i) (hq : q < 1024) (hL : L (ta i) q) : Plc L (S.push (q : Int) (i : Int)) a ta (fun j => X j ∧ j ≠ i) := by
  have hlt : q < S.ls.length := by rw [h.len]; exact hq
  have ha := Sl.at_put hlt (S.at_ q ++ [i])
  have ok2 := Sl.ok_push h.ok (q : Int) (i : Int)
  rw [Sl.push_eq hlt (h.lt (h.out i hi)) (h.whr_out hi)] at *
  refine ⟨ok2, h.cells, (Sl.put_len ..).trans h.len, fun r j hj => ?_, fun j hj => h.out j hj.1, fun j hj hn => ?_⟩
  · rw [ha] at hj
    split at hj
    · rcases List.mem_append.1 hj with hj | hj
      · obtain ⟨m1, m2⟩ := h.mem _ _ hj
        exact ⟨m1, fun hh => m2 hh.1⟩
      · obtain rfl := List.mem_singleton.1 hj
        exact ⟨h.out _ hi, fun hh => hh.2 rfl⟩
    · obtain ⟨m1, m2⟩ := h.mem _ _ hj
      exact ⟨m1, fun hh => m2 hh.1⟩
  · by_cases e : j = i
    · subst e
      refine ⟨q, ?_, hL⟩
      rw [ha, if_pos rfl]
      simp
    · obtain ⟨r, h1, h2⟩ := h.pl j hj fun hh => hn ⟨hh, e⟩
      refine ⟨r, ?_, h2⟩
      rw [ha]
      split
      · rename_i e2
        subst e2
        exact List.mem_append_left _ h1
      · exact h1
/-- A list is emptied. -/
theorem Plc.emptied (h : Plc L S a ta X) {q : Nat} (hq : q < 1024) : Plc L (S.put q []) a ta (fun j => X j ∨ j ∈ S.at_ q) := by
  have hlt : q < S.ls.length := by rw [h.len]; exact hq
  have ha := Sl.at_put hlt []
  refine ⟨Sl.ok_put h.ok hlt List.nodup_nil (fun c hc => nomatch hc) (fun c j hc => nomatch hc), h.cells, (Sl.put_len ..).trans h.len, fun r j hj => ?_, fun j hj => ?_, fun j hj hn => ?_⟩
  · rw [ha] at hj
    split at hj
    · cases hj
    · rename_i hr
      obtain ⟨m1, m2⟩ := h.mem _ _ hj
      exact ⟨m1, fun hh => hh.elim m2 fun e => hr (h.ok.one _ _ _ hj e)⟩
  · rcases hj with hj | hj
    · exact h.out j hj
    · exact (h.mem _ _ hj).1
  · obtain ⟨r, h1, h2⟩ := h.pl j hj fun hh => hn (.inl hh)
    refine ⟨r, ?_, h2⟩
    rw [ha, if_neg (fun e => hn (.inr (by rw [← e]; exact h1)))]
    exact h1
/-- A cell is taken: it is out. -/
theorem Plc.take (h : Plc L S a ta X) (hs : a.Ok) {i : Nat} (hw : a.which = some i) : Plc L S (a.taken i) ta (fun j => X j ∨ j = i) := by
  have h0 := Ar.which_at hs hw
  have hat := Ar.at_taken hs hw
  have hlen : (a.taken i).has.length = a.has.length := List.length_set
  refine ⟨h.ok, h.cells.trans hlen.symm, h.len, fun q j hj => ?_, fun j hj => ?_, fun j hj hn => ?_⟩
  · obtain ⟨m1, m2⟩ := h.mem q j hj
    have hne : j ≠ i := fun e => m1 (by rw [e]; exact h0)
    rw [hat, if_neg hne]
    exact ⟨m1, fun hh => hh.elim m2 hne⟩
  · rw [hat]
    split
    · omega
    · rename_i e
      exact h.out j (hj.resolve_right e)
  · have hne : j ≠ i := fun e => hn (.inr e)
    rw [hat, if_neg hne] at hj
    exact h.pl j hj fun hh => hn (.inl hh)
/-- One that is out is freed. -/
theorem Plc.free (h : Plc L S a ta X) {i : Nat} (hi : X i) : Plc L S (a.gone i) ta (fun j => X j ∧ j ≠ i) := by
  have h0 := h.out i hi
  have hat := Ar.at_gone h0
  have hlen : (a.gone i).has.length = a.has.length := List.length_set
  refine ⟨h.ok, h.cells.trans hlen.symm, h.len, fun q j hj => ?_, fun j hj => ?_, fun j hj hn => ?_⟩
  · obtain ⟨m1, m2⟩ := h.mem q j hj
    rw [hat, if_neg (fun e => m2 (by rw [e]; exact hi))]
    exact ⟨m1, fun hh => m2 hh.1⟩
  · rw [hat, if_neg hj.2]
    exact h.out j hj.1
  · rw [hat] at hj
    split at hj
    · exact absurd rfl hj
    · rename_i e
      exact h.pl j hj fun hh => hn ⟨hh, e⟩
end
/-- Two lists that rise, of the same. -/
theorem rising_eq (f : Nat → Nat) : ∀ (l m : List Nat), l.Pairwise (fun a b => f a < f b) → m.Pairwise (fun a b => f a < f b) → (∀ x, x ∈ l ↔ x ∈ m) → l = m
  | [], [], _, _, _ => rfl
  | [], b :: m, _, _, h => absurd ((h b).2 (List.mem_cons_self ..)) List.not_mem_nil
  | a :: l, [], _, _, h => absurd ((h a).1 (List.mem_cons_self ..)) List.not_mem_nil
  | a :: l, b :: m, hl, hm, h => by
    obtain ⟨l1, l2⟩ := List.pairwise_cons.1 hl
    obtain ⟨m1, m2⟩ := List.pairwise_cons.1 hm
    have e : a = b := by
      rcases List.mem_cons.1 ((h a).1 (List.mem_cons_self ..)) with e | ha
      · exact e
      · rcases List.mem_cons.1 ((h b).2 (List.mem_cons_self ..)) with e | hb
        · exact e.symm
        · have := m1 a ha
          have := l1 b hb
          omega
    subst e
    congr 1
    refine rising_eq f l m l2 m2 fun x => ⟨fun hx => ?_, fun hx => ?_⟩
    · rcases List.mem_cons.1 ((h x).1 (List.mem_cons_of_mem _ hx)) with e | hx'
      · subst e
        exact absurd (l1 x hx) (Nat.lt_irrefl _)
      · exact hx'
    · rcases List.mem_cons.1 ((h x).2 (List.mem_cons_of_mem _ hx)) with e | hx'
      · subst e
        exact absurd (m1 x hx) (Nat.lt_irrefl _)
      · exact hx'
/-- The landed wheel's lists, and its timers' rows, stand for s. -/
structure WRep (s : Wh) (S : Sl) (ta tw tt : Nat → Nat) : Prop where
  lie : Plc (Std s.now) S s.a ta (fun _ => False)
  ent : ∀ t, t ∈ s.l → ta t.i = t.at_ ∧ tw t.i = t.what ∧ tt t.i ≤ s.tn
  ord : s.l.Pairwise fun t u => tt t.i < tt u.i
theorem Wh.nd_ne {s : Wh} (h : s.Ok) {i : Int} {k : Nat} {t : Tm} (ht : t ∈ s.l) (hi : (t.i : Int) = i) (hk : t.k = k) {u : Tm} (hu : u ∈ Wh.drop s.l i k) : u ∈ s.l ∧ u.i ≠ t.i := by
  obtain ⟨h1, h2⟩ := Wh.mem_drop.1 hu
  refine ⟨h1, fun e => ?_⟩
  rw [(Wh.drop_is h ht hi hk u h1).2 e] at h2
  cases h2
/-- A cell that is out gets its timer, and is laid. -/
theorem begin_plc {now at_ i tn : Nat} {S : Sl} {a : Ar} {ta : Nat → Nat} (hnow : now < 18446744073709551616) (ha : at_ < 18446744073709551616) (hlt : now < at_) (h : Plc (Std now) S a ta (fun j => False ∨ j = i)) : Plc (Std now) (S.push (plc now at_ : Int) (i : Int)) a (updN ta i at_) (fun _ => False) := by
  have h2 : Plc (Std now) S a (updN ta i at_) (fun j => False ∨ j = i) := h.imp fun j q _ hx _ hL => by
    rw [updN_ne (fun e => hx (.inr e))]
    exact hL
  refine (h2.push (q := plc now at_) (.inr rfl) (slt_lt (lev_le ..) _) ?_).iff fun j => ?_
  · rw [updN_same]
    exact std_lay (by omega) (by omega) hlt
  · constructor
    · rintro ⟨h | h, h'⟩
      · exact h
      · exact h' h
    · exact fun h => h.elim
theorem WRep.arm {s : Wh} {S : Sl} {ta tw tt : Nat → Nat} (h : WRep s S ta tw tt) (hs : s.Ok) {at_ what : Nat} (ha : at_ < 18446744073709551616) (ho : s.over at_ = false) {i : Nat} (hw : s.a.which = some i) :
    WRep (s.arm at_ what) (S.push (plc s.now (s.nxt at_) : Int) (i : Int)) (updN ta i (s.nxt at_)) (updN tw i what) (updN tt i (s.tn + 1)) := by
  have e : s.arm at_ what = ⟨s.a.taken i, s.l ++ [⟨i, s.a.serial + 1, s.nxt at_, what⟩], s.now, s.tn + 1⟩ := by
    unfold Wh.arm
    rw [ho, if_neg (by simp), hw]
  have h0 := Ar.which_at hs.a hw
  have hne : ∀ t, t ∈ s.l → t.i ≠ i := fun t ht e => by
    obtain ⟨h1, h2⟩ := hs.ent t ht
    rw [e, h0] at h1
    omega
  rw [e]
  refine ⟨begin_plc (tn := 0) hs.now (Wh.nxt_lt hs.now ho ha) (Wh.nxt_gt s at_) (h.lie.take hs.a hw), fun t ht => ?_, ?_⟩
  · rcases List.mem_append.1 ht with q | q
    · rw [updN_ne (hne t q), updN_ne (hne t q), updN_ne (hne t q)]
      obtain ⟨h1, h2, h3⟩ := h.ent t q
      exact ⟨h1, h2, Nat.le_succ_of_le h3⟩
    · obtain rfl := List.mem_singleton.1 q
      exact ⟨updN_same .., updN_same .., by rw [updN_same]; exact Nat.le_refl _⟩
  · show (s.l ++ [_]).Pairwise _
    refine List.pairwise_append.2 ⟨?_, List.pairwise_singleton .., fun t ht u hu => ?_⟩
    · refine h.ord.imp_of_mem fun {t u} ht hu q => ?_
      rw [updN_ne (hne t ht), updN_ne (hne u hu)]
      exact q
    · obtain rfl := List.mem_singleton.1 hu
      rw [updN_ne (hne t ht), updN_same]
      have := (h.ent t ht).2.2
      omega
theorem WRep.again {s : Wh} {S : Sl} {ta tw tt : Nat → Nat} (h : WRep s S ta tw tt) (hs : s.Ok) {at_ : Nat} (ha : at_ < 18446744073709551616) (ho : s.over at_ = false) {i k : Nat} (hl : s.a.live (i : Int) k = true) :
    WRep (s.again (i : Int) k at_) ((S.rem (i : Int)).push (plc s.now (s.nxt at_) : Int) (i : Int)) (updN ta i (s.nxt at_)) tw (updN tt i (s.tn + 1)) := by
  obtain ⟨t, ht, hi, hk, hf⟩ := Wh.live_ent hs hl
  have hi' : t.i = i := by omega
  subst hi'
  have e : s.again (t.i : Int) k at_ = ⟨s.a, Wh.drop s.l (t.i : Int) k ++ [⟨t.i, t.k, s.nxt at_, t.what⟩], s.now, s.tn + 1⟩ := by
    unfold Wh.again
    rw [hf]
    dsimp only
    rw [ho, if_neg (by simp)]
  have h0 : s.a.at_ t.i ≠ 0 := by
    rw [(hs.ent t ht).1]
    exact (hs.ent t ht).2
  have hne : ∀ u, u ∈ Wh.drop s.l (t.i : Int) k → u ∈ s.l ∧ u.i ≠ t.i := fun u hu => Wh.nd_ne hs ht rfl hk hu
  rw [e]
  refine ⟨begin_plc (tn := 0) hs.now (Wh.nxt_lt hs.now ho ha) (Wh.nxt_gt s at_) (h.lie.rem h0 id), fun u hu => ?_, ?_⟩
  · rcases List.mem_append.1 hu with q | q
    · obtain ⟨q1, q2⟩ := hne u q
      rw [updN_ne q2, updN_ne q2]
      obtain ⟨h1, h2, h3⟩ := h.ent u q1
      exact ⟨h1, h2, Nat.le_succ_of_le h3⟩
    · obtain rfl := List.mem_singleton.1 q
      exact ⟨updN_same .., (h.ent t ht).2.1, by rw [updN_same]; exact Nat.le_refl _⟩
  · show (Wh.drop s.l (t.i : Int) k ++ [_]).Pairwise _
    refine List.pairwise_append.2 ⟨?_, List.pairwise_singleton .., fun u hu v hv => ?_⟩
    · refine (h.ord.sublist List.filter_sublist).imp_of_mem fun {u v} hu hv q => ?_
      rw [updN_ne (hne u hu).2, updN_ne (hne v hv).2]
      exact q
    · obtain rfl := List.mem_singleton.1 hv
      rw [updN_ne (hne u hu).2, updN_same]
      have := (h.ent u (hne u hu).1).2.2
      omega
theorem WRep.cancel {s : Wh} {S : Sl} {ta tw tt ta' tw' tt' : Nat → Nat} (h : WRep s S ta tw tt) (hs : s.Ok) {i k : Nat} (hl : s.a.live (i : Int) k = true) (h1 : ∀ j, j ≠ i → ta' j = ta j) (h2 : ∀ j, j ≠ i → tw' j = tw j) (h3 : ∀ j, j ≠ i → tt' j = tt j) :
    WRep (s.cancel (i : Int) k) (S.rem (i : Int)) ta' tw' tt' := by
  obtain ⟨t, ht, hi, hk, hf⟩ := Wh.live_ent hs hl
  have hi' : t.i = i := by omega
  subst hi'
  have e : s.cancel (t.i : Int) k = ⟨s.a.gone t.i, Wh.drop s.l (t.i : Int) k, s.now, s.tn⟩ := by
    unfold Wh.cancel
    rw [hl, if_pos rfl]
    rfl
  have h0 : s.a.at_ t.i ≠ 0 := by
    rw [(hs.ent t ht).1]
    exact (hs.ent t ht).2
  have hne : ∀ u, u ∈ Wh.drop s.l (t.i : Int) k → u ∈ s.l ∧ u.i ≠ t.i := fun u hu => Wh.nd_ne hs ht rfl hk hu
  rw [e]
  refine ⟨((h.lie.rem h0 id).free (.inr rfl)).imp (fun j q hj _ _ hL => ?_) |>.iff fun j => ?_, fun u hu => ?_, ?_⟩
  · have hj : (s.a.gone t.i).at_ j ≠ 0 := hj
    rw [Ar.at_gone h0] at hj
    split at hj
    · exact absurd rfl hj
    · rename_i hne
      rw [h1 j hne]
      exact hL
  · constructor
    · rintro ⟨h | h, h'⟩
      · exact h
      · exact h' h
    · exact fun h => h.elim
  · obtain ⟨q1, q2⟩ := hne u hu
    rw [h1 _ q2, h2 _ q2, h3 _ q2]
    exact h.ent u q1
  · refine (h.ord.sublist List.filter_sublist).imp_of_mem fun {u v} hu hv q => ?_
    rw [h3 _ (hne u hu).2, h3 _ (hne v hv).2]
    exact q
theorem WRep.skip {s : Wh} {S : Sl} {ta tw tt : Nat → Nat} (h : WRep s S ta tw tt) (hs : s.Ok) {to : Nat} (hl : s.l.length = 0) : WRep ⟨s.a, s.l, to, s.tn⟩ S ta tw tt := by
  have hn : s.l = [] := List.eq_nil_of_length_eq_zero hl
  refine ⟨h.lie.imp fun j q hj _ _ _ => ?_, h.ent, h.ord⟩
  obtain ⟨t, ht, _⟩ := hs.all j hj
  rw [hn] at ht
  cases ht
theorem WRep.new (n : Nat) : WRep (Wh.new n) (Sl.new 1024 n) (fun _ => 0) (fun _ => 0) (fun _ => 0) := by
  have h0 : ∀ i, (Ar.new n).at_ i = 0 := by
    intro i
    unfold Ar.at_ Ar.new
    rw [List.getElem?_replicate]
    split <;> rfl
  refine ⟨⟨Sl.ok_new _ _, ?_, List.length_replicate, fun q i hi => ?_, fun i h => h.elim, fun i hi _ => absurd (h0 i) hi⟩, (fun t h => nomatch h), List.Pairwise.nil⟩
  · show n = (List.replicate n 0).length
    rw [List.length_replicate]
  · rw [Sl.at_new] at hi
    cases hi
/-- A tick: what is due lies in one list. -/
theorem WRep.next {s : Wh} {S : Sl} {ta tw tt : Nat → Nat} (h : WRep s S ta tw tt) : Plc (Lse 3 (s.now + 1)) S s.a ta (fun _ => False) := h.lie.imp fun _ _ _ _ _ hL => lse_of_std hL
theorem due_iff {s : Wh} {S S' : Sl} {ta tw tt : Nat → Nat} (h : WRep s S ta tw tt) (hs : s.Ok) (h' : Plc (Lse 0 (s.now + 1)) S' s.a ta (fun _ => False)) (i : Nat) : i ∈ S'.at_ (slt 0 (s.now + 1)) ↔ i ∈ s.fires.map Tm.i := by
  constructor
  · intro hi
    have hl := (h'.mem _ _ hi).1
    obtain ⟨q, hq, hL⟩ := h'.pl i hl id
    obtain ⟨t, ht, e⟩ := hs.all i hl
    refine List.mem_map.2 ⟨t, Wh.mem_fires.2 ⟨ht, ?_⟩, e⟩
    have := h'.ok.one _ _ _ hq hi
    have := (lse_due (by omega) hL).1 this
    have h2 := (h.ent t ht).1
    rw [e] at h2
    omega
  · intro hi
    obtain ⟨t, ht, rfl⟩ := List.mem_map.1 hi
    obtain ⟨h1, h2⟩ := Wh.mem_fires.1 ht
    obtain ⟨e1, e2⟩ := hs.ent t h1
    obtain ⟨q, hq, hL⟩ := h'.pl t.i (by rw [e1]; exact e2) id
    have := (lse_due (by omega) hL).2 (by rw [(h.ent t h1).1]; exact h2)
    rw [← this]
    exact hq
/-- What is due, sorted by the turns, is what fires. -/
theorem due_sorted {s : Wh} {S S' : Sl} {ta tw tt : Nat → Nat} (h : WRep s S ta tw tt) (hs : s.Ok) (h' : Plc (Lse 0 (s.now + 1)) S' s.a ta (fun _ => False)) {D : List Nat} (hp : D.Perm (S'.at_ (slt 0 (s.now + 1)))) (ho : D.Pairwise fun a b => ¬ tt b < tt a) : D = s.fires.map Tm.i := by
  have hnd : D.Nodup := hp.nodup_iff.2 (h'.ok.nodup _)
  have hm : ∀ x, x ∈ D ↔ x ∈ s.fires.map Tm.i := fun x => hp.mem_iff.trans (due_iff h hs h' x)
  have hfo : (s.fires.map Tm.i).Pairwise fun a b => tt a < tt b := by
    rw [List.pairwise_map]
    exact h.ord.sublist List.filter_sublist
  have inj : ∀ a b, a ∈ s.fires.map Tm.i → b ∈ s.fires.map Tm.i → tt a = tt b → a = b := fun a b ha hb e => by
    obtain ⟨i, hi, rfl⟩ := List.getElem_of_mem ha
    obtain ⟨j, hj, rfl⟩ := List.getElem_of_mem hb
    have hq := List.pairwise_iff_getElem.1 hfo
    rcases Nat.lt_trichotomy i j with q | q | q
    · have := hq i j hi hj q
      omega
    · subst q
      rfl
    · have := hq j i hj hi q
      omega
  refine rising_eq tt D _ ?_ hfo hm
  refine (ho.and hnd).imp_of_mem fun {a b} ha hb q => ?_
  obtain ⟨q1, q2⟩ := q
  rcases Nat.lt_or_ge (tt a) (tt b) with q | q
  · exact q
  · exact absurd (inj a b ((hm a).1 ha) ((hm b).1 hb) (by omega)) q2
/-- Behind the tick. -/
theorem WRep.ticked {s : Wh} {S S' S2 : Sl} {ta tw tt ta' tw' tt' : Nat → Nat} (h : WRep s S ta tw tt) (hs : s.Ok) (h' : Plc (Lse 0 (s.now + 1)) S2 (goneL s.a (s.fires.map Tm.i)) ta' (fun _ => False))
    (h1 : ∀ j, ¬ j ∈ s.fires.map Tm.i → ta' j = ta j) (h2 : ∀ j, ¬ j ∈ s.fires.map Tm.i → tw' j = tw j) (h3 : ∀ j, ¬ j ∈ s.fires.map Tm.i → tt' j = tt j) : WRep s.ticked S2 ta' tw' tt' := by
  obtain ⟨f1, f2, f3⟩ := Wh.fires_facts hs
  obtain ⟨g1, g2, g3, g4, g5⟩ := goneL_facts _ s.a hs.a f1 f2
  have hout : ∀ t, t ∈ s.stay → t ∈ s.l ∧ t.at_ ≠ s.now + 1 ∧ ¬ t.i ∈ s.fires.map Tm.i := fun t ht => by
    obtain ⟨m1, m2⟩ := Wh.mem_stay.1 ht
    refine ⟨m1, m2, fun hm => ?_⟩
    obtain ⟨u, hu, e⟩ := List.mem_map.1 hm
    obtain ⟨h1, h2⟩ := Wh.mem_fires.1 hu
    rw [Wh.one_of hs.nd h1 m1 e] at h2
    exact m2 h2
  refine ⟨h'.imp fun j q hj _ _ hL => ?_, fun t ht => ?_, ?_⟩
  · refine std_of_lse (Nat.succ_pos _) hL fun e => ?_
    have hj : (goneL s.a (s.fires.map Tm.i)).at_ j ≠ 0 := hj
    rw [g2] at hj
    split at hj
    · exact absurd rfl hj
    · rename_i hm
      obtain ⟨t, ht, rfl⟩ := hs.all j hj
      refine hm (List.mem_map.2 ⟨t, Wh.mem_fires.2 ⟨ht, ?_⟩, rfl⟩)
      rw [← (h.ent t ht).1, ← h1 _ hm]
      exact e
  · obtain ⟨m1, _, m3⟩ := hout t ht
    rw [h1 _ m3, h2 _ m3, h3 _ m3]
    exact h.ent t m1
  · refine (h.ord.sublist List.filter_sublist).imp_of_mem fun {u v} hu hv q => ?_
    rw [h3 _ (hout u hu).2.2, h3 _ (hout v hv).2.2]
    exact q
end Go.Proofs.Ytkmakdhlaenaoaa
