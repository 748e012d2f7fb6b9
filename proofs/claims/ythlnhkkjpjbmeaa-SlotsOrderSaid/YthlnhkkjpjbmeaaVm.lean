/- Stage 10: the landed slots' calls, by what they stand for; how lists are gone over. -/
import Derived.Test.YthlnhkkjpjbmeaaVl
namespace Go.Proofs.Ythlnhkkjpjbmeaa
set_option maxRecDepth 100000
open Go.RowKit Go.Shelf
attribute [local go_sem] Oper.semAt_some
theorem Sl.of_in {s : Sl} {i : Nat} : s.of_ (i : Int) = s.at_ i := by
  unfold Sl.of_
  rw [if_pos (by omega)]
  simp
theorem Sl.of_no {s : Sl} {l : Int} (h : ¬ (0 ≤ l ∧ l < (s.ls.length : Int))) : s.of_ l = [] := by
  unfold Sl.of_
  split
  · exact Sl.at_out (by omega)
  · rfl
theorem hasL_iff {s : Sl} {l : Int} : s.hasL l = true ↔ 0 ≤ l ∧ l < (s.ls.length : Int) := by
  unfold Sl.hasL
  simp
theorem hasC_iff {s : Sl} {c : Int} : s.hasC c = true ↔ 0 ≤ c ∧ c < (s.cells : Int) := by
  unfold Sl.hasC
  simp
theorem whr_out {s : Sl} (hs : s.Ok) {c : Nat} (h : s.cells ≤ c) : s.whr c = none := by
  rw [Sl.whr_none]
  intro i hi
  have := hs.low i c hi
  omega
/-- What is told of a cell. -/
def Sl.whE (s : Sl) (c : Int) : Array Value := match s.whi c with
  | some i => #[.int .i64 (i : Int), .bool true]
  | none => #[.int .i64 0, .bool false]
/-- What is popped. -/
def Sl.popE (s : Sl) (l : Int) : Array Value := match s.of_ l with
  | [] => #[.int .i64 0, .bool false]
  | x :: _ => #[.int .i64 (x : Int), .bool true]
/-- What may be asked of slots. -/
structure Sl.Fit (s : Sl) : Prop where
  ok : s.Ok
  m : s.cells ≤ 65536
  n : s.ls.length ≤ 4096
/-- Old blocks of F turned, new ones made. -/
structure Ext2 (F F' : Nat → Prop) (w w' : World) : Prop where
  kept : Kept F w w'
  sub : ∀ k, F' k → F k ∨ (w.heap.size ≤ k ∧ k < w'.heap.size)
/-- A call of f upon what PA says of s makes it what PB says of s'. -/
def Does (PA PB : World → Nat → Sl → (Nat → Prop) → Prop) (f : FuncId) (args : Array Value) (v : Value) (s s' : Sl) : Prop :=
  ∀ w p F, PA w p s F → Calls Try.prog f (#[.pointer (some ⟨p, 0, none⟩)] ++ args) w fun e w' => e = .returned v ∧ ∃ F', PB w' p s' F' ∧ Ext2 F F' w w'
def PSa (A : Nat) (wk : Option (Nat × Nat)) : World → Nat → Sl → (Nat → Prop) → Prop := fun w p s F => PS w p s A wk F
/-- At rest. -/
def PA (w : World) (p : Nat) (s : Sl) (F : Nat → Prop) : Prop := ∃ A, PS w p s A none F
theorem Ext2.below {F : Nat → Prop} {w w' : World} (h : Below w.heap.size w w') : Ext2 F F w w' := ⟨Kept.of_below h _, fun _ q => .inl q⟩
theorem PS.step {w w' : World} {p : Nat} {s : Sl} {A : Nat} {wk : Option (Nat × Nat)} {F : Nat → Prop} (h : PS w p s A wk F) (hb : Below w.heap.size w w') : PS w' p s A wk F := h.keep (Kept.of_below hb fun _ => False) fun _ _ q => q
theorem srep_lst {s : Sl} {fl : Nat → Int} {pv nx sz : Nat → Nat} (hr : SRep s fl pv nx sz) {c : Nat} (hc : c < s.cells) : (fl c = -1 ↔ s.whr c = none) ∧ ∀ i, s.whr c = some i → fl c = (i : Int) := by
  rw [hr.lst c hc]
  cases s.whr c with
  | none => exact ⟨⟨fun _ => rfl, fun _ => rfl⟩, fun i h => by cases h⟩
  | some j => exact ⟨⟨fun h => by have h : (j : Int) = -1 := h; omega, fun h => by cases h⟩, fun i h => by injection h with h; rw [h]⟩
theorem pa_push {s : Sl} (hs : s.Fit) (A : Nat) (wk : Option (Nat × Nat)) (l c : Int) : Does (PSa A wk) (PSa A wk) 9 #[.int .i64 l, .int .i64 c] (.int .i64 (s.pushE l c)) s (s.push l c) := fun w p F h => by
  have h0 := h
  obtain ⟨cA, B, cB, V, cV, fl, pv, nx, sz, hx, hr⟩ := h
  by_cases hl : s.hasL l = true ∧ s.hasC c = true
  · obtain ⟨h1, h2⟩ := hl
    obtain ⟨l0, l1⟩ := hasL_iff.1 h1
    obtain ⟨c0, c1⟩ := hasC_iff.1 h2
    obtain ⟨i, rfl⟩ := Int.eq_ofNat_of_zero_le l0
    obtain ⟨k, rfl⟩ := Int.eq_ofNat_of_zero_le c0
    have hi : i < s.ls.length := by omega
    have hk : k < s.cells := by omega
    obtain ⟨f1, f2⟩ := srep_lst hr hk
    cases hw : s.whr k with
    | some j =>
      have e1 : s.pushE (i : Int) (k : Int) = 8 := by
        unfold Sl.pushE
        rw [h1, h2]
        simp [hw]
      have e2 : s.push (i : Int) (k : Int) = s := by
        unfold Sl.push
        rw [if_neg (by rw [e1]; decide)]
      rw [e1, e2]
      refine (ppush_twice hx hs.m hs.n i k hi hk (by rw [f2 j hw]; omega)).mono ?_
      rintro e w' ⟨rfl, hb⟩
      exact ⟨rfl, F, h0.step hb, .below hb⟩
    | none =>
      have e1 : s.pushE (i : Int) (k : Int) = 0 := by
        unfold Sl.pushE
        rw [h1, h2]
        simp [hw]
      have e2 : s.push (i : Int) (k : Int) = s.put i (s.at_ i ++ [k]) := by
        unfold Sl.push
        rw [if_pos e1]
        rfl
      rw [e1, e2]
      have hla := hr.last hi
      have hlm : pv (s.cells + i) ∈ (s.cells + i) :: s.at_ i := by
        rw [hla]
        exact last_node
      have hwn := Sl.whr_none.1 hw
      have hll : pv (s.cells + i) < s.cells + s.ls.length := by
        rcases List.mem_cons.1 hlm with e | e
        · omega
        · have := hs.ok.low i _ e
          omega
      have hne : pv (s.cells + i) ≠ k := fun e => by
        rw [e] at hlm
        rcases List.mem_cons.1 hlm with e | e
        · omega
        · exact hwn i e
      refine (ppush_ok hx hs.m hs.n i k _ hi hk (f1.2 hw) rfl hll hne (by rw [hr.size i hi]; have := Sl.at_length hs.ok i; have := hs.m; omega)).mono ?_
      rintro e w' ⟨rfl, hx', hk'⟩
      refine ⟨rfl, F, ⟨cA, B, cB, V, cV, _, _, _, _, ?_, hr.push hs.ok hi hk hw rfl⟩, hk'.mono fun j _ q => ?_, fun _ q => .inl q⟩
      · show SX _ _ _ _ _ _ s.cells (s.ls.set i _).length _ _ _ _ _ _ _ _
        rw [List.length_set]
        exact hx'
      · rcases q with rfl | rfl
        · exact hx.mA
        · exact hx.mB
  · have e1 : s.pushE l c = 2 := by
      unfold Sl.pushE
      rw [if_neg (by simpa using hl)]
    have e2 : s.push l c = s := by
      unfold Sl.push
      rw [if_neg (by rw [e1]; decide)]
    rw [e1, e2]
    refine (ppush_no (some ⟨p, 0, none⟩) l c true (s.hasL l) (s.hasC c) 2 (by simp) (by
      rcases hL : s.hasL l with _ | _
      · exact .inr (.inl rfl)
      · rcases hC : s.hasC c with _ | _
        · exact .inr (.inr rfl)
        · exact absurd ⟨hL, hC⟩ hl) (fun W hW => (hx.step hW).made) (fun W hW => (hx.step hW).hasL l) (fun W hW => (hx.step hW).hasC hs.m hs.n c)).mono ?_
    rintro e w' ⟨rfl, hb⟩
    exact ⟨rfl, F, h0.step hb, .below hb⟩
/-- A cell of list i is taken out. -/
theorem pa_unlink {s : Sl} (hs : s.Fit) (A : Nat) (wk : Option (Nat × Nat)) {i k : Nat} (hk : k ∈ s.at_ i) (a : Nat) (ha : ∀ fl pv nx sz, SRep s fl pv nx sz → ∀ x, wk = some x → x.2 = k → a = pv k) (w : World) (p : Nat) (F : Nat → Prop) (h : PS w p s A wk F) :
    Calls Try.prog 29 #[.pointer (some ⟨p, 0, none⟩), .int .i64 (k : Int)] w fun e w' => e = .returned (.tuple #[]) ∧ PS w' p (s.put i ((s.at_ i).filter (· != k))) A (wkCut k a wk) F ∧ Kept F w w' := by
  obtain ⟨cA, B, cB, V, cV, fl, pv, nx, sz, hx, hr⟩ := h
  have hi := Sl.at_lt hk
  have hkc := hs.ok.low i k hk
  obtain ⟨h1, h2⟩ := hr.node hi hk
  have hfl : fl k = (i : Int) := (srep_lst hr hkc).2 i ((Sl.whr_some hs.ok).2 hk)
  have hb : ∀ j, j ∈ (s.cells + i) :: s.at_ i → j < s.cells + s.ls.length := fun j q => by
    rcases List.mem_cons.1 q with rfl | q
    · omega
    · have := hs.ok.low i j q
      omega
  obtain ⟨ys, zs, he⟩ := List.append_of_mem hk
  obtain ⟨m1, m2⟩ := hr.mid hi he
  have hnd := ring_nodup hs.ok i
  rw [he] at hnd
  have hpk : pv k ≠ k := fun q => by
    rw [m1] at q
    rw [← List.cons_append, List.nodup_append] at hnd
    exact hnd.2.2 _ last_node k (List.mem_cons_self ..) q
  have hnk : nx k ≠ k := fun q => by
    rw [m2] at q
    cases zs with
    | nil =>
      have q : s.cells + i = k := q
      omega
    | cons z t =>
      have q : z = k := q
      subst q
      rw [← List.cons_append, List.nodup_append] at hnd
      exact (List.nodup_cons.1 hnd.2.1).1 (List.mem_cons_self ..)
  have hsz := hr.size i hi
  have hlen := Sl.at_length hs.ok i
  have hm := hs.m
  have hs1 : 1 ≤ sz i := by
    rw [hsz, he, List.length_append, List.length_cons]
    omega
  have fin : ∀ {w' : World} {wk' : Option (Nat × Nat)}, SX w' p A cA B cB s.cells s.ls.length V cV (updI fl k (-1)) (updN (updN pv (nx k) (pv k)) k 0) (updN (updN nx (pv k) (nx k)) k 0) (updN sz i (sz i - 1)) wk' F → PS w' p (s.put i ((s.at_ i).filter (· != k))) A wk' F := fun {w'} {wk'} hx' => by
    refine ⟨cA, B, cB, V, cV, _, _, _, _, ?_, hr.cut hs.ok hi hk⟩
    show SX _ _ _ _ _ _ s.cells (s.ls.set i _).length _ _ _ _ _ _ _ _
    rw [List.length_set]
    exact hx'
  cases wk with
  | none =>
    refine (punlink_none hx i k _ _ hi hkc hfl rfl rfl (hb _ h1) (hb _ h2) hpk hnk (by omega) hs1).mono ?_
    rintro e w' ⟨rfl, hx', hk'⟩
    exact ⟨rfl, fin hx', hk'⟩
  | some x =>
    refine (punlink_some hx i k _ _ hi hkc hfl rfl rfl (hb _ h1) (hb _ h2) hpk hnk (by omega) hs1).mono ?_
    rintro e w' ⟨rfl, hx', hk'⟩
    refine ⟨rfl, fin ?_, hk'⟩
    unfold wkCut at hx' ⊢
    dsimp only at hx' ⊢
    by_cases q : x.2 = k
    · rw [if_pos q] at hx' ⊢
      rw [ha fl pv nx sz hr x rfl q]
      exact hx'
    · rw [if_neg q] at hx' ⊢
      exact hx'
theorem pa_remove {s : Sl} (hs : s.Fit) (A : Nat) (wk : Option (Nat × Nat)) (c : Int) (a : Nat) (ha : ∀ fl pv nx sz, SRep s fl pv nx sz → ∀ x, wk = some x → (x.2 : Int) = c → a = pv x.2) :
    Does (PSa A wk) (PSa A (if (s.whi c).isSome then wkCut c.toNat a wk else wk)) 13 #[.int .i64 c] (.int .i64 (s.remE c)) s (s.rem c) := fun w p F h => by
  have h0 := h
  obtain ⟨cA, B, cB, V, cV, fl, pv, nx, sz, hx, hr⟩ := h
  by_cases hc : s.hasC c = true
  · obtain ⟨c0, c1⟩ := hasC_iff.1 hc
    obtain ⟨k, rfl⟩ := Int.eq_ofNat_of_zero_le c0
    have hk : k < s.cells := by omega
    obtain ⟨f1, f2⟩ := srep_lst hr hk
    have ew : s.whi (k : Int) = s.whr k := by
      unfold Sl.whi
      rw [if_pos (by omega)]
      simp
    cases hw : s.whr k with
    | none =>
      have e1 : s.remE (k : Int) = 7 := by
        unfold Sl.remE
        rw [hc]
        simp [hw]
      have e2 : s.rem (k : Int) = s := by
        unfold Sl.rem
        rw [ew, hw]
      rw [e1, e2, ew, hw]
      refine (premove_none hx hs.m hs.n k hk (f1.2 hw)).mono ?_
      rintro e w' ⟨rfl, hb⟩
      exact ⟨rfl, F, h0.step hb, .below hb⟩
    | some i =>
      have e1 : s.remE (k : Int) = 0 := by
        unfold Sl.remE
        rw [hc]
        simp [hw]
      have e2 : s.rem (k : Int) = s.put i ((s.at_ i).filter (· != k)) := by
        unfold Sl.rem
        rw [ew, hw]
        rfl
      rw [e1, e2, ew, hw]
      have hm := (Sl.whr_some hs.ok).1 hw
      refine (premove_ok (Q := fun w' => PS w' p (s.put i ((s.at_ i).filter (· != k))) A (wkCut k a wk) F ∧ Kept F w w') hx hs.m hs.n k hk (by rw [f2 i hw]; omega) fun W hW => ?_).mono ?_
      · refine (pa_unlink hs A wk hm a (fun fl pv nx sz hr x e q => by subst q; exact ha fl pv nx sz hr x e rfl) W p F (h0.step hW)).mono ?_
        rintro e w' ⟨rfl, h1, h2⟩
        exact ⟨rfl, h1, (Kept.of_below hW _).trans h2 fun _ _ r => r⟩
      · rintro e w' ⟨rfl, h1, h2⟩
        exact ⟨rfl, F, h1, h2, fun _ q => .inl q⟩
  · have e1 : s.remE c = 2 := by
      unfold Sl.remE
      rw [if_neg hc]
    have ew : s.whi c = none := by
      unfold Sl.whi
      split
      · rw [whr_out hs.ok]
        have : ¬ (0 ≤ c ∧ c < (s.cells : Int)) := fun q => hc (hasC_iff.2 q)
        omega
      · rfl
    have e2 : s.rem c = s := by
      unfold Sl.rem
      rw [ew]
    rw [e1, e2, ew]
    refine (premove_no (some ⟨p, 0, none⟩) c true (s.hasC c) 2 (by simp) (.inr (by simpa using hc)) (fun W hW => (hx.step hW).made) (fun W hW => (hx.step hW).hasC hs.m hs.n c)).mono ?_
    rintro e w' ⟨rfl, hb⟩
    exact ⟨rfl, F, h0.step hb, .below hb⟩
theorem pa_len {s : Sl} (_hs : s.Fit) {A : Nat} {wk : Option (Nat × Nat)} (l : Int) {w : World} {p : Nat} {F : Nat → Prop} (h : PS w p s A wk F) : Calls Try.prog 20 #[.pointer (some ⟨p, 0, none⟩), .int .i64 l] w (ret (.int .i64 ((s.of_ l).length : Int)) w) := by
  obtain ⟨cA, B, cB, V, cV, fl, pv, nx, sz, hx, hr⟩ := h
  by_cases hl : 0 ≤ l ∧ l < (s.ls.length : Int)
  · obtain ⟨i, rfl⟩ := Int.eq_ofNat_of_zero_le hl.1
    have hi : i < s.ls.length := by omega
    have := hx.len i hi
    rw [hr.size i hi] at this
    rw [Sl.of_in]
    exact this
  · rw [Sl.of_no hl]
    have h1 := hx.hasL l
    have e : (decide ((0 : Int) ≤ l) && decide (l < (s.ls.length : Int))) = false := by
      rw [Bool.and_eq_false_iff]
      simp only [decide_eq_false_iff_not]
      omega
    rw [e] at h1
    exact plen_no w _ l h1
theorem pa_where {s : Sl} (hs : s.Fit) {A : Nat} {wk : Option (Nat × Nat)} (c : Int) {w : World} {p : Nat} {F : Nat → Prop} (h : PS w p s A wk F) : Calls Try.prog 21 #[.pointer (some ⟨p, 0, none⟩), .int .i64 c] w (ret (.tuple (s.whE c)) w) := by
  obtain ⟨cA, B, cB, V, cV, fl, pv, nx, sz, hx, hr⟩ := h
  by_cases hc : 0 ≤ c ∧ c < (s.cells : Int)
  · obtain ⟨k, rfl⟩ := Int.eq_ofNat_of_zero_le hc.1
    have hk : k < s.cells := by omega
    obtain ⟨f1, f2⟩ := srep_lst hr hk
    have := hx.where_ hs.m hs.n k hk
    have ew : s.whi (k : Int) = s.whr k := by
      unfold Sl.whi
      rw [if_pos (by omega)]
      simp
    unfold Sl.whE
    rw [ew]
    cases hw : s.whr k with
    | none =>
      rw [if_pos (f1.2 hw)] at this
      exact this
    | some i =>
      rw [f2 i hw, if_neg (by omega)] at this
      exact this
  · have ew : s.whi c = none := by
      unfold Sl.whi
      split
      · rw [whr_out hs.ok]
        omega
      · rfl
    unfold Sl.whE
    rw [ew]
    have h1 := hx.hasC hs.m hs.n c
    have e : (decide ((0 : Int) ≤ c) && decide (c < (s.cells : Int))) = false := by
      rw [Bool.and_eq_false_iff]
      simp only [decide_eq_false_iff_not]
      omega
    rw [e] at h1
    exact pwhere_no w _ c h1
theorem pa_pop {s : Sl} (hs : s.Fit) (A : Nat) (l : Int) : Does (PSa A none) (PSa A none) 11 #[.int .i64 l] (.tuple (s.popE l)) s (s.pop l) := fun w p F h => by
  have h0 := h
  have hln := pa_len hs l h
  obtain ⟨cA, B, cB, V, cV, fl, pv, nx, sz, hx, hr⟩ := h
  cases hq : s.of_ l with
  | nil =>
    rw [hq] at hln
    have e1 : s.popE l = #[.int .i64 0, .bool false] := by
      unfold Sl.popE
      rw [hq]
    have e2 : s.pop l = s := by
      unfold Sl.pop
      rw [hq]
    rw [e1, e2]
    refine (ppop_no (some ⟨p, 0, none⟩) l hln).mono ?_
    rintro e w' ⟨rfl, hb⟩
    exact ⟨rfl, F, h0.step hb, .below hb⟩
  | cons x t =>
    obtain ⟨l0, l1, l2⟩ := Sl.of_some hq
    obtain ⟨i, rfl⟩ := Int.eq_ofNat_of_zero_le l0
    have l1 : i < s.ls.length := l1
    have l2 : s.at_ i = x :: t := l2
    have e1 : s.popE (i : Int) = #[.int .i64 (x : Int), .bool true] := by
      unfold Sl.popE
      rw [hq]
    have hnd := hs.ok.nodup i
    rw [l2] at hnd
    have ef : (s.at_ i).filter (· != x) = t := by
      rw [l2]
      exact filter_mid (ys := []) hnd
    have e2 : s.pop (i : Int) = s.put i ((s.at_ i).filter (· != x)) := by
      unfold Sl.pop
      rw [hq, ef]
      rfl
    rw [e1, e2]
    have hm : x ∈ s.at_ i := by rw [l2]; exact List.mem_cons_self ..
    have hc : x = nx (s.cells + i) := by
      have := (hr.ring i l1).first
      rw [l2] at this
      exact this.symm
    refine (ppop_ok (Q := fun w' => PS w' p (s.put i ((s.at_ i).filter (· != x))) A none F ∧ Kept F w w') hx hs.m hs.n i x l1 (by rw [hr.size i l1, l2]; simp) hc fun W hW => ?_).mono ?_
    · refine (pa_unlink hs A none hm 0 (fun _ _ _ _ _ _ e => nomatch e) W p F (h0.step hW)).mono ?_
      rintro e w' ⟨rfl, h1, h2⟩
      exact ⟨rfl, h1, (Kept.of_below hW _).trans h2 fun _ _ r => r⟩
    · rintro e w' ⟨rfl, h1, h2⟩
      exact ⟨rfl, F, h1, h2, fun _ q => .inl q⟩
theorem pa_copy {s : Sl} (hs : s.Fit) {A : Nat} {wk : Option (Nat × Nat)} {w : World} {p : Nat} {F : Nat → Prop} (h : PS w p s A wk F) : Calls Try.prog 16 #[.pointer (some ⟨p, 0, none⟩)] w fun e w' => ∃ b F', e = .returned (.pointer (some ⟨b, 0, none⟩)) ∧ PA w' b s F' ∧ (∀ k, F' k → w.heap.size ≤ k ∧ k < w'.heap.size) ∧ Below w.heap.size w w' := by
  obtain ⟨cA, B, cB, V, cV, fl, pv, nx, sz, hx, hr⟩ := h
  refine (pcopyX hx hs.m hs.n).mono ?_
  rintro e w' ⟨b, g2, c2, g3, c3, rfl, hx', h1, h2, h3, hb⟩
  refine ⟨b, _, rfl, ⟨g2, c2, g3, c3, none, 0, fl, pv, nx, sz, hx', hr⟩, fun k hk => ⟨?_, hx'.old k hk⟩, hb⟩
  rcases hk with rfl | rfl | rfl
  · exact h1
  · exact h2
  · exact h3
theorem pa_new (w : World) (m n : Nat) (h1 : 1 ≤ m) (h2 : m ≤ 65536) (h3 : 1 ≤ n) (h4 : n ≤ 4096) : Calls Try.prog 7 #[.int .i64 (n : Int), .int .i64 (m : Int)] w fun e w' => ∃ p F, e = .returned (.tuple #[.pointer (some ⟨p, 0, none⟩), .int .i64 0]) ∧ PA w' p (Sl.new n m) F ∧ (∀ k, F k → w.heap.size ≤ k ∧ k < w'.heap.size) ∧ Below w.heap.size w w' := by
  refine (pnewX w m n h1 h2 h3 h4).mono ?_
  rintro e w' ⟨p, rfl, A, B, fl, pv, nx, hx, q1, q2, q3, q4, q5, hb⟩
  have hl : (Sl.new n m).ls.length = n := List.length_replicate
  have hr : SRep (Sl.new n m) fl pv nx (fun _ => 0) := by
    refine ⟨fun k hk => ?_, fun i hi => ?_, fun i hi => ?_⟩
    · have e : (Sl.new n m).whr k = none := by
        rw [Sl.whr_none]
        intro i hi
        rw [Sl.at_new] at hi
        cases hi
      rw [e]
      exact q1 k hk
    · rw [Sl.at_new]
      rw [hl] at hi
      exact ⟨(q2 i hi).2, (q2 i hi).1⟩
    · rw [Sl.at_new]
      rfl
  refine ⟨p, _, rfl, ⟨A, m + n, B, n, none, 0, fl, pv, nx, fun _ => 0, (by rw [hl]; exact hx), hr⟩, fun k hk => ⟨?_, hx.old k hk⟩, hb⟩
  rcases hk with rfl | rfl | rfl
  · exact q3
  · exact q4
  · exact q5
end Go.Proofs.Ythlnhkkjpjbmeaa
