import Derived.LaidEqlPtr
import Derived.Test.YtimcdnbfdkpffaaGreatGm13
import Derived.Test.YtimcdnbfdkpffaaGreatGm5
import Derived.Test.YtimcdnbfdkpffaaGreatGm9
/- Stage 10: the landed slots as what they stand for, beside kept blocks; going over a list: behind. -/
namespace Go.Proofs.YtimcdnbfdkpffaaGreat
set_option maxRecDepth 100000
open Go.RowKit Go.Shelf
attribute [local go_sem] Oper.semAt_some
/-- The landed slots at p stand for s; their links lie at A. -/
def PS (w : World) (p : Nat) (s : Sl) (A : Nat) (wk : Option (Nat × Nat)) (F : Nat → Prop) : Prop := ∃ cA B cB V cV fl pv nx sz, SX w p A cA B cB s.cells s.ls.length V cV fl pv nx sz wk F ∧ SRep s fl pv nx sz
theorem PS.keep {w w' : World} {p : Nat} {s : Sl} {A : Nat} {wk : Option (Nat × Nat)} {F R : Nat → Prop} (h : PS w p s A wk F) (hk : Kept R w w') (hd : ∀ k, F k → ¬ R k) : PS w' p s A wk F := by
  obtain ⟨cA, B, cB, V, cV, fl, pv, nx, sz, hx, hr⟩ := h
  exact ⟨cA, B, cB, V, cV, fl, pv, nx, sz, hx.keep hk hd, hr⟩
theorem PS.old {w : World} {p : Nat} {s : Sl} {A : Nat} {wk : Option (Nat × Nat)} {F : Nat → Prop} (h : PS w p s A wk F) : ∀ k, F k → k < w.heap.size := by
  obtain ⟨cA, B, cB, V, cV, fl, pv, nx, sz, hx, hr⟩ := h
  exact hx.old
section
variable {wb W W' : World} {X : Nat → Prop} {p : Nat} {s : Sl} {A : Nat} {wk : Option (Nat × Nat)}
end
section
variable (wb : World) (p : Nat) (L : List Nat) (S : Nat → Sl) (pl : Nat → Nat) (o : Nat)
end
end Go.Proofs.YtimcdnbfdkpffaaGreat
/- Stage 10: the landed slots' calls, by what they stand for; how lists are gone over. -/
namespace Go.Proofs.YtimcdnbfdkpffaaGreat
set_option maxRecDepth 100000
open Go.RowKit Go.Shelf
attribute [local go_sem] Oper.semAt_some
theorem Sl.of_in {s : Sl} {i : Nat} : s.of_ (i : Int) = s.at_ i := by
  unfold Sl.of_
  rw [if_pos (by omega)]
  simp
theorem Sl.of_no {s : Sl} {l : Int} (h : ¬ (0 ≤ l ∧ l < (s.ls.length : Int))) : s.of_ l = [] := by
  unfold Sl.of_
  split
  · exact Sl.at_out (by omega)
  · rfl
theorem hasL_iff {s : Sl} {l : Int} : s.hasL l = true ↔ 0 ≤ l ∧ l < (s.ls.length : Int) := by
  unfold Sl.hasL
  simp
theorem hasC_iff {s : Sl} {c : Int} : s.hasC c = true ↔ 0 ≤ c ∧ c < (s.cells : Int) := by
  unfold Sl.hasC
  simp
theorem whr_out {s : Sl} (hs : s.Ok) {c : Nat} (h : s.cells ≤ c) : s.whr c = none := by
  rw [Sl.whr_none]
  intro i hi
  have := hs.low i c hi
  omega
/-- What is popped. -/
def Sl.popE (s : Sl) (l : Int) : Array Value := match s.of_ l with
  | [] => #[.int .i64 0, .bool false]
  | x :: _ => #[.int .i64 (x : Int), .bool true]
/-- What may be asked of slots. -/
structure Sl.Fit (s : Sl) : Prop where
  ok : s.Ok
  m : s.cells ≤ 65536
  n : s.ls.length ≤ 4096
/-- Old blocks of F turned, new ones made. -/
structure Ext2 (F F' : Nat → Prop) (w w' : World) : Prop where
  kept : Kept F w w'
  sub : ∀ k, F' k → F k ∨ (w.heap.size ≤ k ∧ k < w'.heap.size)
/-- A call of f upon what PZ says of s makes it what PB says of s'. -/
def Does (PZ PB : World → Nat → Sl → (Nat → Prop) → Prop) (f : FuncId) (args : Array Value) (v : Value) (s s' : Sl) : Prop :=
  ∀ w p F, PZ w p s F → Calls Tryz.prog f (#[.pointer (some ⟨p, 0, none⟩)] ++ args) w fun e w' => e = .returned v ∧ ∃ F', PB w' p s' F' ∧ Ext2 F F' w w'
def PSa (A : Nat) (wk : Option (Nat × Nat)) : World → Nat → Sl → (Nat → Prop) → Prop := fun w p s F => PS w p s A wk F
/-- At rest. -/
def PZ (w : World) (p : Nat) (s : Sl) (F : Nat → Prop) : Prop := ∃ A, PS w p s A none F
theorem Ext2.below {F : Nat → Prop} {w w' : World} (h : Below w.heap.size w w') : Ext2 F F w w' := ⟨Kept.of_below h _, fun _ q => .inl q⟩
theorem PS.step {w w' : World} {p : Nat} {s : Sl} {A : Nat} {wk : Option (Nat × Nat)} {F : Nat → Prop} (h : PS w p s A wk F) (hb : Below w.heap.size w w') : PS w' p s A wk F := h.keep (Kept.of_below hb fun _ => False) fun _ _ q => q
theorem srep_lst {s : Sl} {fl : Nat → Int} {pv nx sz : Nat → Nat} (hr : SRep s fl pv nx sz) {c : Nat} (hc : c < s.cells) : (fl c = -1 ↔ s.whr c = none) ∧ ∀ i, s.whr c = some i → fl c = (i : Int) := by
  rw [hr.lst c hc]
  cases s.whr c with
  | none => exact ⟨⟨fun _ => rfl, fun _ => rfl⟩, fun i h => by cases h⟩
  | some j => exact ⟨⟨fun h => by have h : (j : Int) = -1 := h; omega, fun h => by cases h⟩, fun i h => by injection h with h; rw [h]⟩
theorem pa_push {s : Sl} (hs : s.Fit) (A : Nat) (wk : Option (Nat × Nat)) (l c : Int) : Does (PSa A wk) (PSa A wk) 170 #[.int .i64 l, .int .i64 c] (.int .i64 (s.pushE l c)) s (s.push l c) := fun w p F h => by
  have h0 := h
  obtain ⟨cA, B, cB, V, cV, fl, pv, nx, sz, hx, hr⟩ := h
  by_cases hl : s.hasL l = true ∧ s.hasC c = true
  · obtain ⟨h1, h2⟩ := hl
    obtain ⟨l0, l1⟩ := hasL_iff.1 h1
    obtain ⟨c0, c1⟩ := hasC_iff.1 h2
    obtain ⟨i, rfl⟩ := Int.eq_ofNat_of_zero_le l0
    obtain ⟨k, rfl⟩ := Int.eq_ofNat_of_zero_le c0
    have hi : i < s.ls.length := by omega
    have hk : k < s.cells := by omega
    obtain ⟨f1, f2⟩ := srep_lst hr hk
    cases hw : s.whr k with
    | some j =>
      have e1 : s.pushE (i : Int) (k : Int) = 8 := by
        unfold Sl.pushE
        rw [h1, h2]
        simp [hw]
      have e2 : s.push (i : Int) (k : Int) = s := by
        unfold Sl.push
        rw [if_neg (by rw [e1]; decide)]
      rw [e1, e2]
      refine (ppush_twice hx hs.m hs.n i k hi hk (by rw [f2 j hw]; omega)).mono ?_
      rintro e w' ⟨rfl, hb⟩
      exact ⟨rfl, F, h0.step hb, .below hb⟩
    | none =>
      have e1 : s.pushE (i : Int) (k : Int) = 0 := by
        unfold Sl.pushE
        rw [h1, h2]
        simp [hw]
      have e2 : s.push (i : Int) (k : Int) = s.put i (s.at_ i ++ [k]) := by
        unfold Sl.push
        rw [if_pos e1]
        rfl
      rw [e1, e2]
      have hla := hr.last hi
      have hlm : pv (s.cells + i) ∈ (s.cells + i) :: s.at_ i := by
        rw [hla]
        exact last_node
      have hwn := Sl.whr_none.1 hw
      have hll : pv (s.cells + i) < s.cells + s.ls.length := by
        rcases List.mem_cons.1 hlm with e | e
        · omega
        · have := hs.ok.low i _ e
          omega
      have hne : pv (s.cells + i) ≠ k := fun e => by
        rw [e] at hlm
        rcases List.mem_cons.1 hlm with e | e
        · omega
        · exact hwn i e
      refine (ppush_ok hx hs.m hs.n i k _ hi hk (f1.2 hw) rfl hll hne (by rw [hr.size i hi]; have := Sl.at_length hs.ok i; have := hs.m; omega)).mono ?_
      rintro e w' ⟨rfl, hx', hk'⟩
      refine ⟨rfl, F, ⟨cA, B, cB, V, cV, _, _, _, _, ?_, hr.push hs.ok hi hk hw rfl⟩, hk'.mono fun j _ q => ?_, fun _ q => .inl q⟩
      · show SX _ _ _ _ _ _ s.cells (s.ls.set i _).length _ _ _ _ _ _ _ _
        rw [List.length_set]
        exact hx'
      · rcases q with rfl | rfl
        · exact hx.mA
        · exact hx.mB
  · have e1 : s.pushE l c = 2 := by
      unfold Sl.pushE
      rw [if_neg (by simpa using hl)]
    have e2 : s.push l c = s := by
      unfold Sl.push
      rw [if_neg (by rw [e1]; decide)]
    rw [e1, e2]
    refine (ppush_no (some ⟨p, 0, none⟩) l c true (s.hasL l) (s.hasC c) 2 (by simp) (by
      rcases hL : s.hasL l with _ | _
      · exact .inr (.inl rfl)
      · rcases hC : s.hasC c with _ | _
        · exact .inr (.inr rfl)
        · exact absurd ⟨hL, hC⟩ hl) (fun W hW => (hx.step hW).made) (fun W hW => (hx.step hW).hasL l) (fun W hW => (hx.step hW).hasC hs.m hs.n c)).mono ?_
    rintro e w' ⟨rfl, hb⟩
    exact ⟨rfl, F, h0.step hb, .below hb⟩
/-- A cell of list i is taken out. -/
theorem pa_unlink {s : Sl} (hs : s.Fit) (A : Nat) (wk : Option (Nat × Nat)) {i k : Nat} (hk : k ∈ s.at_ i) (a : Nat) (ha : ∀ fl pv nx sz, SRep s fl pv nx sz → ∀ x, wk = some x → x.2 = k → a = pv k) (w : World) (p : Nat) (F : Nat → Prop) (h : PS w p s A wk F) :
    Calls Tryz.prog 138 #[.pointer (some ⟨p, 0, none⟩), .int .i64 (k : Int)] w fun e w' => e = .returned (.tuple #[]) ∧ PS w' p (s.put i ((s.at_ i).filter (· != k))) A (wkCut k a wk) F ∧ Kept F w w' := by
  obtain ⟨cA, B, cB, V, cV, fl, pv, nx, sz, hx, hr⟩ := h
  have hi := Sl.at_lt hk
  have hkc := hs.ok.low i k hk
  obtain ⟨h1, h2⟩ := hr.node hi hk
  have hfl : fl k = (i : Int) := (srep_lst hr hkc).2 i ((Sl.whr_some hs.ok).2 hk)
  have hb : ∀ j, j ∈ (s.cells + i) :: s.at_ i → j < s.cells + s.ls.length := fun j q => by
    rcases List.mem_cons.1 q with rfl | q
    · omega
    · have := hs.ok.low i j q
      omega
  obtain ⟨ys, zs, he⟩ := List.append_of_mem hk
  obtain ⟨m1, m2⟩ := hr.mid hi he
  have hnd := ring_nodup hs.ok i
  rw [he] at hnd
  have hpk : pv k ≠ k := fun q => by
    rw [m1] at q
    rw [← List.cons_append, List.nodup_append] at hnd
    exact hnd.2.2 _ last_node k (List.mem_cons_self ..) q
  have hnk : nx k ≠ k := fun q => by
    rw [m2] at q
    cases zs with
    | nil =>
      have q : s.cells + i = k := q
      omega
    | cons z t =>
      have q : z = k := q
      subst q
      rw [← List.cons_append, List.nodup_append] at hnd
      exact (List.nodup_cons.1 hnd.2.1).1 (List.mem_cons_self ..)
  have hsz := hr.size i hi
  have hlen := Sl.at_length hs.ok i
  have hm := hs.m
  have hs1 : 1 ≤ sz i := by
    rw [hsz, he, List.length_append, List.length_cons]
    omega
  have fin : ∀ {w' : World} {wk' : Option (Nat × Nat)}, SX w' p A cA B cB s.cells s.ls.length V cV (updI fl k (-1)) (updN (updN pv (nx k) (pv k)) k 0) (updN (updN nx (pv k) (nx k)) k 0) (updN sz i (sz i - 1)) wk' F → PS w' p (s.put i ((s.at_ i).filter (· != k))) A wk' F := fun {w'} {wk'} hx' => by
    refine ⟨cA, B, cB, V, cV, _, _, _, _, ?_, hr.cut hs.ok hi hk⟩
    show SX _ _ _ _ _ _ s.cells (s.ls.set i _).length _ _ _ _ _ _ _ _
    rw [List.length_set]
    exact hx'
  cases wk with
  | none =>
    refine (punlink_none hx i k _ _ hi hkc hfl rfl rfl (hb _ h1) (hb _ h2) hpk hnk (by omega) hs1).mono ?_
    rintro e w' ⟨rfl, hx', hk'⟩
    exact ⟨rfl, fin hx', hk'⟩
  | some x =>
    refine (punlink_some hx i k _ _ hi hkc hfl rfl rfl (hb _ h1) (hb _ h2) hpk hnk (by omega) hs1).mono ?_
    rintro e w' ⟨rfl, hx', hk'⟩
    refine ⟨rfl, fin ?_, hk'⟩
    unfold wkCut at hx' ⊢
    dsimp only at hx' ⊢
    by_cases q : x.2 = k
    · rw [if_pos q] at hx' ⊢
      rw [ha fl pv nx sz hr x rfl q]
      exact hx'
    · rw [if_neg q] at hx' ⊢
      exact hx'
theorem pa_remove {s : Sl} (hs : s.Fit) (A : Nat) (wk : Option (Nat × Nat)) (c : Int) (a : Nat) (ha : ∀ fl pv nx sz, SRep s fl pv nx sz → ∀ x, wk = some x → (x.2 : Int) = c → a = pv x.2) :
    Does (PSa A wk) (PSa A (if (s.whi c).isSome then wkCut c.toNat a wk else wk)) 90 #[.int .i64 c] (.int .i64 (s.remE c)) s (s.rem c) := fun w p F h => by
  have h0 := h
  obtain ⟨cA, B, cB, V, cV, fl, pv, nx, sz, hx, hr⟩ := h
  by_cases hc : s.hasC c = true
  · obtain ⟨c0, c1⟩ := hasC_iff.1 hc
    obtain ⟨k, rfl⟩ := Int.eq_ofNat_of_zero_le c0
    have hk : k < s.cells := by omega
    obtain ⟨f1, f2⟩ := srep_lst hr hk
    have ew : s.whi (k : Int) = s.whr k := by
      unfold Sl.whi
      rw [if_pos (by omega)]
      simp
    cases hw : s.whr k with
    | none =>
      have e1 : s.remE (k : Int) = 7 := by
        unfold Sl.remE
        rw [hc]
        simp [hw]
      have e2 : s.rem (k : Int) = s := by
        unfold Sl.rem
        rw [ew, hw]
      rw [e1, e2, ew, hw]
      refine (premove_none hx hs.m hs.n k hk (f1.2 hw)).mono ?_
      rintro e w' ⟨rfl, hb⟩
      exact ⟨rfl, F, h0.step hb, .below hb⟩
    | some i =>
      have e1 : s.remE (k : Int) = 0 := by
        unfold Sl.remE
        rw [hc]
        simp [hw]
      have e2 : s.rem (k : Int) = s.put i ((s.at_ i).filter (· != k)) := by
        unfold Sl.rem
        rw [ew, hw]
        rfl
      rw [e1, e2, ew, hw]
      have hm := (Sl.whr_some hs.ok).1 hw
      refine (premove_ok (Q := fun w' => PS w' p (s.put i ((s.at_ i).filter (· != k))) A (wkCut k a wk) F ∧ Kept F w w') hx hs.m hs.n k hk (by rw [f2 i hw]; omega) fun W hW => ?_).mono ?_
      · refine (pa_unlink hs A wk hm a (fun fl pv nx sz hr x e q => by subst q; exact ha fl pv nx sz hr x e rfl) W p F (h0.step hW)).mono ?_
        rintro e w' ⟨rfl, h1, h2⟩
        exact ⟨rfl, h1, (Kept.of_below hW _).trans h2 fun _ _ r => r⟩
      · rintro e w' ⟨rfl, h1, h2⟩
        exact ⟨rfl, F, h1, h2, fun _ q => .inl q⟩
  · have e1 : s.remE c = 2 := by
      unfold Sl.remE
      rw [if_neg hc]
    have ew : s.whi c = none := by
      unfold Sl.whi
      split
      · rw [whr_out hs.ok]
        have : ¬ (0 ≤ c ∧ c < (s.cells : Int)) := fun q => hc (hasC_iff.2 q)
        omega
      · rfl
    have e2 : s.rem c = s := by
      unfold Sl.rem
      rw [ew]
    rw [e1, e2, ew]
    refine (premove_no (some ⟨p, 0, none⟩) c true (s.hasC c) 2 (by simp) (.inr (by simpa using hc)) (fun W hW => (hx.step hW).made) (fun W hW => (hx.step hW).hasC hs.m hs.n c)).mono ?_
    rintro e w' ⟨rfl, hb⟩
    exact ⟨rfl, F, h0.step hb, .below hb⟩
theorem pa_len {s : Sl} (_hs : s.Fit) {A : Nat} {wk : Option (Nat × Nat)} (l : Int) {w : World} {p : Nat} {F : Nat → Prop} (h : PS w p s A wk F) : Calls Tryz.prog 167 #[.pointer (some ⟨p, 0, none⟩), .int .i64 l] w (ret (.int .i64 ((s.of_ l).length : Int)) w) := by
  obtain ⟨cA, B, cB, V, cV, fl, pv, nx, sz, hx, hr⟩ := h
  by_cases hl : 0 ≤ l ∧ l < (s.ls.length : Int)
  · obtain ⟨i, rfl⟩ := Int.eq_ofNat_of_zero_le hl.1
    have hi : i < s.ls.length := by omega
    have := hx.len i hi
    rw [hr.size i hi] at this
    rw [Sl.of_in]
    exact this
  · rw [Sl.of_no hl]
    have h1 := hx.hasL l
    have e : (decide ((0 : Int) ≤ l) && decide (l < (s.ls.length : Int))) = false := by
      rw [Bool.and_eq_false_iff]
      simp only [decide_eq_false_iff_not]
      omega
    rw [e] at h1
    exact plen_no w _ l h1
theorem pa_pop {s : Sl} (hs : s.Fit) (A : Nat) (l : Int) : Does (PSa A none) (PSa A none) 168 #[.int .i64 l] (.tuple (s.popE l)) s (s.pop l) := fun w p F h => by
  have h0 := h
  have hln := pa_len hs l h
  obtain ⟨cA, B, cB, V, cV, fl, pv, nx, sz, hx, hr⟩ := h
  cases hq : s.of_ l with
  | nil =>
    rw [hq] at hln
    have e1 : s.popE l = #[.int .i64 0, .bool false] := by
      unfold Sl.popE
      rw [hq]
    have e2 : s.pop l = s := by
      unfold Sl.pop
      rw [hq]
    rw [e1, e2]
    refine (ppop_no (some ⟨p, 0, none⟩) l hln).mono ?_
    rintro e w' ⟨rfl, hb⟩
    exact ⟨rfl, F, h0.step hb, .below hb⟩
  | cons x t =>
    obtain ⟨l0, l1, l2⟩ := Sl.of_some hq
    obtain ⟨i, rfl⟩ := Int.eq_ofNat_of_zero_le l0
    have l1 : i < s.ls.length := l1
    have l2 : s.at_ i = x :: t := l2
    have e1 : s.popE (i : Int) = #[.int .i64 (x : Int), .bool true] := by
      unfold Sl.popE
      rw [hq]
    have hnd := hs.ok.nodup i
    rw [l2] at hnd
    have ef : (s.at_ i).filter (· != x) = t := by
      rw [l2]
      exact filter_mid (ys := []) hnd
    have e2 : s.pop (i : Int) = s.put i ((s.at_ i).filter (· != x)) := by
      unfold Sl.pop
      rw [hq, ef]
      rfl
    rw [e1, e2]
    have hm : x ∈ s.at_ i := by rw [l2]; exact List.mem_cons_self ..
    have hc : x = nx (s.cells + i) := by
      have := (hr.ring i l1).first
      rw [l2] at this
      exact this.symm
    refine (ppop_ok (Q := fun w' => PS w' p (s.put i ((s.at_ i).filter (· != x))) A none F ∧ Kept F w w') hx hs.m hs.n i x l1 (by rw [hr.size i l1, l2]; simp) hc fun W hW => ?_).mono ?_
    · refine (pa_unlink hs A none hm 0 (fun _ _ _ _ _ _ e => nomatch e) W p F (h0.step hW)).mono ?_
      rintro e w' ⟨rfl, h1, h2⟩
      exact ⟨rfl, h1, (Kept.of_below hW _).trans h2 fun _ _ r => r⟩
    · rintro e w' ⟨rfl, h1, h2⟩
      exact ⟨rfl, F, h1, h2, fun _ q => .inl q⟩
theorem pa_copy {s : Sl} (hs : s.Fit) {A : Nat} {wk : Option (Nat × Nat)} {w : World} {p : Nat} {F : Nat → Prop} (h : PS w p s A wk F) : Calls Tryz.prog 82 #[.pointer (some ⟨p, 0, none⟩)] w fun e w' => ∃ b F', e = .returned (.pointer (some ⟨b, 0, none⟩)) ∧ PZ w' b s F' ∧ (∀ k, F' k → w.heap.size ≤ k ∧ k < w'.heap.size) ∧ Below w.heap.size w w' := by
  obtain ⟨cA, B, cB, V, cV, fl, pv, nx, sz, hx, hr⟩ := h
  refine (pcopyX hx hs.m hs.n).mono ?_
  rintro e w' ⟨b, g2, c2, g3, c3, rfl, hx', h1, h2, h3, hb⟩
  refine ⟨b, _, rfl, ⟨g2, c2, g3, c3, none, 0, fl, pv, nx, sz, hx', hr⟩, fun k hk => ⟨?_, hx'.old k hk⟩, hb⟩
  rcases hk with rfl | rfl | rfl
  · exact h1
  · exact h2
  · exact h3
theorem pa_new (w : World) (m n : Nat) (h1 : 1 ≤ m) (h2 : m ≤ 65536) (h3 : 1 ≤ n) (h4 : n ≤ 4096) : Calls Tryz.prog 66 #[.int .i64 (n : Int), .int .i64 (m : Int)] w fun e w' => ∃ p F, e = .returned (.tuple #[.pointer (some ⟨p, 0, none⟩), .int .i64 0]) ∧ PZ w' p (Sl.new n m) F ∧ (∀ k, F k → w.heap.size ≤ k ∧ k < w'.heap.size) ∧ Below w.heap.size w w' := by
  refine (pnewX w m n h1 h2 h3 h4).mono ?_
  rintro e w' ⟨p, rfl, A, B, fl, pv, nx, hx, q1, q2, q3, q4, q5, hb⟩
  have hl : (Sl.new n m).ls.length = n := List.length_replicate
  have hr : SRep (Sl.new n m) fl pv nx (fun _ => 0) := by
    refine ⟨fun k hk => ?_, fun i hi => ?_, fun i hi => ?_⟩
    · have e : (Sl.new n m).whr k = none := by
        rw [Sl.whr_none]
        intro i hi
        rw [Sl.at_new] at hi
        cases hi
      rw [e]
      exact q1 k hk
    · rw [Sl.at_new]
      rw [hl] at hi
      exact ⟨(q2 i hi).2, (q2 i hi).1⟩
    · rw [Sl.at_new]
      rfl
  refine ⟨p, _, rfl, ⟨A, m + n, B, n, none, 0, fl, pv, nx, fun _ => 0, (by rw [hl]; exact hx), hr⟩, fun k hk => ⟨?_, hx.old k hk⟩, hb⟩
  rcases hk with rfl | rfl | rfl
  · exact q3
  · exact q4
  · exact q5
end Go.Proofs.YtimcdnbfdkpffaaGreat
/- Stage 11: the landed wheel in memory, as fields. -/
namespace Go.Proofs.YtimcdnbfdkpffaaGreat
set_option maxRecDepth 100000
open Go.RowKit Go.Shelf
def wcell (ta tw tt : Nat → Nat) (j : Nat) : Value := if j % 3 = 0 then .int .u64 (ta (j / 3) : Int) else if j % 3 = 1 then .int .u64 (tw (j / 3) : Int) else .int .u64 (tt (j / 3) : Int)
theorem wcell_one (ta tw tt : Nat → Nat) (j : Nat) : (wcell ta tw tt j).oneCell' = true := by
  unfold wcell
  split
  · rfl
  · split <;> rfl
theorem wcell_0 (ta tw tt : Nat → Nat) (j : Nat) : wcell ta tw tt (j * 3) = .int .u64 (ta j : Int) := by
  unfold wcell
  rw [if_pos (by omega), show j * 3 / 3 = j by omega]
theorem wcell_1 (ta tw tt : Nat → Nat) (j : Nat) : wcell ta tw tt (j * 3 + 1) = .int .u64 (tw j : Int) := by
  unfold wcell
  rw [if_neg (by omega), if_pos (by omega), show (j * 3 + 1) / 3 = j by omega]
theorem wcell_2 (ta tw tt : Nat → Nat) (j : Nat) : wcell ta tw tt (j * 3 + 2) = .int .u64 (tt j : Int) := by
  unfold wcell
  rw [if_neg (by omega), if_neg (by omega), show (j * 3 + 2) / 3 = j by omega]
theorem Ext.trans {F F' F'' : Nat → Prop} {w w' w'' : World} (h : Ext F F' w w') (k : Ext F' F'' w' w'') : Ext F F'' w w'' := by
  refine ⟨fun j hj => ?_, h.kept.trans k.kept fun j hj hf => ?_⟩
  · rcases k.sub j hj with q | ⟨q1, q2⟩
    · rcases h.sub j q with q | ⟨q1, q2⟩
      · exact .inl q
      · exact .inr ⟨q1, Nat.lt_of_lt_of_le q2 k.kept.size⟩
    · exact .inr ⟨Nat.le_trans h.kept.size q1, q2⟩
  · rcases h.sub j hf with q | ⟨q1, q2⟩
    · exact q
    · omega
theorem Ext.step {F F' : Nat → Prop} {w w' w'' : World} (h : Ext F F' w w') (hb : Below w'.heap.size w' w'') : Ext F F' w w'' := h.trans (Ext.of_below hb)
theorem Ext.setCell {F F' : Nat → Prop} {w w' : World} (h : Ext F F' w w') {p : Addr} (hp : F' p.block) (v : Value) : Ext F F' w (w'.setCell p v) :=
  h.trans ⟨fun _ q => .inl q, (Kept.refl F' w').setCell (.inl hp) v⟩
theorem Ext.setCells {F F' : Nat → Prop} {w w' : World} (h : Ext F F' w w') {g : Nat} (hp : F' g) (o : Nat) (vs : List Value) : Ext F F' w (w'.setCells g o vs) :=
  h.trans ⟨fun _ q => .inl q, (Kept.refl F' w').setCells (.inl hp) vs o⟩
theorem Ext.refl (F : Nat → Prop) (w : World) : Ext F F w w := Ext.of_below (Below.refl _ _)
/-- The landed wheel at a block, as fields. -/
structure WX (w : World) (p a z g c : Nat) (A : Ar) (S : Sl) (now tn : Nat) (ta tw tt : Nat → Nat) (F : Nat → Prop) : Prop where
  blk : w.heap[p]? = some (.cells #[.pointer (some ⟨a, 0, none⟩), .pointer (some ⟨z, 0, none⟩), .slice (some ⟨g, 0, none⟩) A.has.length c, .int .u64 (now : Int), .int .u64 (tn : Int)] 140 (0, 0))
  row : OwnC w 0 161 3 (some ⟨g, 0, none⟩) A.has.length c (wcell ta tw tt)
  ar : ∃ Fa Fz, PA w a A Fa ∧ PZ w z S Fz ∧ (∀ k, Fa k → F k) ∧ (∀ k, Fz k → F k ∧ ¬ Fa k) ∧ ¬ Fa p ∧ ¬ Fa g ∧ ¬ Fz p ∧ ¬ Fz g
  mp : F p
  mg : F g
  old : ∀ k, F k → k < w.heap.size
  n : A.has.length ≤ 65536
theorem PZ.keep {w w' : World} {p : Nat} {s : Sl} {F R : Nat → Prop} (h : PZ w p s F) (hk : Kept R w w') (hd : ∀ k, F k → ¬ R k) : PZ w' p s F := by
  obtain ⟨A, h⟩ := h
  exact ⟨A, h.keep hk hd⟩
theorem PZ.old {w : World} {p : Nat} {s : Sl} {F : Nat → Prop} (h : PZ w p s F) : ∀ k, F k → k < w.heap.size := by
  obtain ⟨A, h⟩ := h
  exact h.old
theorem PA.pos {w : World} {p : Nat} {s : Ar} {F : Nat → Prop} (h : PA w p s F) : 0 < s.has.length := by
  obtain ⟨g, c, fd, fs, bf, hx, _⟩ := h
  exact hx.pos
section
variable {w w' : World} {p a z g c : Nat} {A : Ar} {S : Sl} {now tn : Nat} {ta tw tt : Nat → Nat} {F : Nat → Prop}
theorem WX.pos (h : WX w p a z g c A S now tn ta tw tt F) : 0 < A.has.length := by
  obtain ⟨Fa, Fz, hA, _⟩ := h.ar
  exact hA.pos
theorem WX.pg (h : WX w p a z g c A S now tn ta tw tt F) : p ≠ g := OwnC.ne h.row h.blk (by decide)
theorem WX.keep {R : Nat → Prop} (h : WX w p a z g c A S now tn ta tw tt F) (hk : Kept R w w') (hd : ∀ k, F k → ¬ R k) : WX w' p a z g c A S now tn ta tw tt F := by
  obtain ⟨Fa, Fz, hA, hZ, h1, h2, h3⟩ := h.ar
  exact ⟨(hk.block p (h.old p h.mp) (hd p h.mp)).trans h.blk, h.row.block (hk.block g (h.old g h.mg) (hd g h.mg)), ⟨Fa, Fz, hA.keep hk (fun k q => hd k (h1 k q)), hZ.keep hk (fun k q => hd k (h2 k q).1), h1, h2, h3⟩, h.mp, h.mg, fun k hF => Nat.lt_of_lt_of_le (h.old k hF) hk.size, h.n⟩
theorem WX.step (h : WX w p a z g c A S now tn ta tw tt F) (hb : Below w.heap.size w w') : WX w' p a z g c A S now tn ta tw tt F :=
  h.keep (Kept.of_below hb fun _ => False) fun _ _ q => q
theorem WX.cap9 (h : WX w p a z g c A S now tn ta tw tt F) : A.has.length ≤ c ∧ c ≤ 9223372036854775807 := by
  have := h.row.cap
  have := h.row.cap_le
  unfold maxLen at this
  omega
theorem WX.lies (h : WX w p a z g c A S now tn ta tw tt F) : (∀ k, k < A.has.length * 3 → w.cell? ⟨g, k, none⟩ = some (wcell ta tw tt k)) ∧ ∀ k, w.frozen? ⟨g, k, none⟩ = false := by
  obtain ⟨g', e, _, _, hc, hf⟩ := h.row.lies h.pos
  injection e with e
  injection e with e
  subst e
  exact ⟨hc, hf⟩
theorem WX.t0 (h : WX w p a z g c A S now tn ta tw tt F) {j : Nat} (hj : j < A.has.length) : w.cell? ⟨g, j * 3, none⟩ = some (.int .u64 (ta j : Int)) := by
  rw [← wcell_0 ta tw tt j]
  exact h.lies.1 _ (by omega)
theorem WX.t1 (h : WX w p a z g c A S now tn ta tw tt F) {j : Nat} (hj : j < A.has.length) : w.cell? ⟨g, j * 3 + 1, none⟩ = some (.int .u64 (tw j : Int)) := by
  rw [← wcell_1 ta tw tt j]
  exact h.lies.1 _ (by omega)
theorem WX.t2 (h : WX w p a z g c A S now tn ta tw tt F) {j : Nat} (hj : j < A.has.length) : w.cell? ⟨g, j * 3 + 2, none⟩ = some (.int .u64 (tt j : Int)) := by
  rw [← wcell_2 ta tw tt j]
  exact h.lies.1 _ (by omega)
theorem WX.there (h : WX w p a z g c A S now tn ta tw tt F) {j : Nat} (hj : j < A.has.length) : w.there g (j * 3) 3 := fun k hk => by
  refine ⟨?_, h.lies.2 _⟩
  rcases (show k = 0 ∨ k = 1 ∨ k = 2 by omega) with rfl | rfl | rfl
  · rw [Nat.add_zero, h.t0 hj]
    rfl
  · rw [h.t1 hj]
    rfl
  · rw [h.t2 hj]
    rfl
/-- Its own block, or its row, turned. -/
theorem WX.turn {now' tn' : Nat} {ta' tw' tt' : Nat → Nat} (h : WX w p a z g c A S now tn ta tw tt F) (hk : Kept (fun k => k = p ∨ k = g) w w')
    (hb : w'.heap[p]? = some (.cells #[.pointer (some ⟨a, 0, none⟩), .pointer (some ⟨z, 0, none⟩), .slice (some ⟨g, 0, none⟩) A.has.length c, .int .u64 (now' : Int), .int .u64 (tn' : Int)] 140 (0, 0)))
    (hr : OwnC w' 0 161 3 (some ⟨g, 0, none⟩) A.has.length c (wcell ta' tw' tt')) : WX w' p a z g c A S now' tn' ta' tw' tt' F := by
  obtain ⟨Fa, Fz, hA, hZ, h1, h2, h3, h4, h5, h6⟩ := h.ar
  refine ⟨hb, hr, ⟨Fa, Fz, hA.keep hk (fun k q e => ?_), hZ.keep hk (fun k q e => ?_), h1, h2, h3, h4, h5, h6⟩, h.mp, h.mg, fun k hF => Nat.lt_of_lt_of_le (h.old k hF) hk.size, h.n⟩
  · rcases e with rfl | rfl
    · exact h3 q
    · exact h4 q
  · rcases e with rfl | rfl
    · exact h5 q
    · exact h6 q
theorem WX.setNow (h : WX w p a z g c A S now tn ta tw tt F) (v : Nat) : WX (w.setCell ⟨p, 3, none⟩ (.int .u64 (v : Int))) p a z g c A S v tn ta tw tt F :=
  h.turn ((Kept.refl _ w).setCell (p := ⟨p, 3, none⟩) (.inl (.inl rfl)) _) (blk_set h.blk 3 _) (h.row.block (Below.heap_setCell w ⟨p, 3, none⟩ _ g h.pg.symm))
theorem WX.setTurn (h : WX w p a z g c A S now tn ta tw tt F) (v : Nat) : WX (w.setCell ⟨p, 4, none⟩ (.int .u64 (v : Int))) p a z g c A S now v ta tw tt F :=
  h.turn ((Kept.refl _ w).setCell (p := ⟨p, 4, none⟩) (.inl (.inl rfl)) _) (blk_set h.blk 4 _) (h.row.block (Below.heap_setCell w ⟨p, 4, none⟩ _ g h.pg.symm))
theorem WX.setAt (h : WX w p a z g c A S now tn ta tw tt F) (k v : Nat) : WX (w.setCell ⟨g, k * 3, none⟩ (.int .u64 (v : Int))) p a z g c A S now tn (updN ta k v) tw tt F := by
  refine h.turn ((Kept.refl _ w).setCell (p := ⟨g, k * 3, none⟩) (.inl (.inr rfl)) _) ((Below.heap_setCell w ⟨g, k * 3, none⟩ _ p h.pg).trans h.blk) ((h.row.set_ (k * 3) _).same fun j _ => ?_)
  unfold updV wcell updN
  by_cases e : j = k * 3
  · subst e
    rw [if_pos rfl, if_pos (by omega), if_pos (by omega)]
  · rw [if_neg e]
    by_cases e1 : j % 3 = 0
    · rw [if_pos e1, if_pos e1, if_neg (by omega)]
    · rw [if_neg e1, if_neg e1]
theorem WX.setWhat (h : WX w p a z g c A S now tn ta tw tt F) (k v : Nat) : WX (w.setCell ⟨g, k * 3 + 1, none⟩ (.int .u64 (v : Int))) p a z g c A S now tn ta (updN tw k v) tt F := by
  refine h.turn ((Kept.refl _ w).setCell (p := ⟨g, k * 3 + 1, none⟩) (.inl (.inr rfl)) _) ((Below.heap_setCell w ⟨g, k * 3 + 1, none⟩ _ p h.pg).trans h.blk) ((h.row.set_ (k * 3 + 1) _).same fun j _ => ?_)
  unfold updV wcell updN
  by_cases e : j = k * 3 + 1
  · subst e
    rw [if_pos rfl, if_neg (by omega), if_pos (by omega), if_pos (by omega)]
  · rw [if_neg e]
    by_cases e1 : j % 3 = 0
    · rw [if_pos e1, if_pos e1]
    · rw [if_neg e1, if_neg e1]
      by_cases e2 : j % 3 = 1
      · rw [if_pos e2, if_pos e2, if_neg (by omega)]
      · rw [if_neg e2, if_neg e2]
theorem WX.setTt (h : WX w p a z g c A S now tn ta tw tt F) (k v : Nat) : WX (w.setCell ⟨g, k * 3 + 2, none⟩ (.int .u64 (v : Int))) p a z g c A S now tn ta tw (updN tt k v) F := by
  refine h.turn ((Kept.refl _ w).setCell (p := ⟨g, k * 3 + 2, none⟩) (.inl (.inr rfl)) _) ((Below.heap_setCell w ⟨g, k * 3 + 2, none⟩ _ p h.pg).trans h.blk) ((h.row.set_ (k * 3 + 2) _).same fun j _ => ?_)
  unfold updV wcell updN
  by_cases e : j = k * 3 + 2
  · subst e
    rw [if_pos rfl, if_neg (by omega), if_neg (by omega), if_pos (by omega)]
  · rw [if_neg e]
    by_cases e1 : j % 3 = 0
    · rw [if_pos e1, if_pos e1]
    · rw [if_neg e1, if_neg e1]
      by_cases e2 : j % 3 = 1
      · rw [if_pos e2, if_pos e2]
      · rw [if_neg e2, if_neg e2, if_neg (by omega)]
/-- A whole timer. -/
theorem WX.setT (h : WX w p a z g c A S now tn ta tw tt F) (k x y t : Nat) : WX (w.setCells g (k * 3) [.int .u64 (x : Int), .int .u64 (y : Int), .int .u64 (t : Int)]) p a z g c A S now tn (updN ta k x) (updN tw k y) (updN tt k t) F := by
  have h1 := h.setAt k x
  have h2 := h1.setWhat k y
  exact h2.setTt k t
/-- Its arena turned by a call. -/
theorem WX.arena {f : FuncId} {args : Array Value} {v : Value} {A' : Ar} (h : WX w p a z g c A S now tn ta tw tt F) (hl : A'.has.length = A.has.length)
    (hc : ∀ Fa, PA w a A Fa → Calls Tryz.prog f args w fun e w' => e = .returned v ∧ ∃ Fa', PA w' a A' Fa' ∧ Ext Fa Fa' w w') :
    Calls Tryz.prog f args w fun e w' => e = .returned v ∧ ∃ F', WX w' p a z g c A' S now tn ta tw tt F' ∧ Ext F F' w w' := by
  obtain ⟨Fa, Fz, hA, hZ, h1, h2, h3, h4, h5, h6⟩ := h.ar
  refine (hc Fa hA).mono ?_
  rintro e w' ⟨rfl, Fa', hA', he⟩
  have hsub : ∀ k, Fa' k → k < w.heap.size → Fa k := fun k q hk => (he.sub k q).resolve_right fun ⟨q1, _⟩ => by omega
  refine ⟨rfl, fun k => F k ∨ Fa' k, ⟨?_, ?_, ⟨Fa', Fz, hA', hZ.keep he.kept fun k q => (h2 k q).2, fun k q => .inr q, fun k q => ⟨.inl (h2 k q).1, fun q' => (h2 k q).2 (hsub k q' (hZ.old k q))⟩, fun q => h3 (hsub _ q (h.old p h.mp)), fun q => h4 (hsub _ q (h.old g h.mg)), h5, h6⟩, .inl h.mp, .inl h.mg, fun k q => ?_, by rw [hl]; exact h.n⟩, ⟨fun k q => ?_, he.kept.mono fun k _ q => h1 k q⟩⟩
  · rw [hl]
    exact (he.kept.block p (h.old p h.mp) h3).trans h.blk
  · rw [hl]
    exact h.row.block (he.kept.block g (h.old g h.mg) h4)
  · rcases q with q | q
    · exact Nat.lt_of_lt_of_le (h.old k q) he.kept.size
    · exact hA'.old k q
  · rcases q with q | q
    · exact .inl q
    · rcases he.sub k q with q | q
      · exact .inl (h1 k q)
      · exact .inr q
/-- Its lists turned by a call. -/
theorem WX.slots {f : FuncId} {args : Array Value} {v : Value} {S' : Sl} (h : WX w p a z g c A S now tn ta tw tt F)
    (hc : ∀ Z, Does (PSa Z none) (PSa Z none) f args v S S') :
    Calls Tryz.prog f (#[.pointer (some ⟨z, 0, none⟩)] ++ args) w fun e w' => e = .returned v ∧ ∃ F', WX w' p a z g c A S' now tn ta tw tt F' ∧ Ext F F' w w' := by
  obtain ⟨Fa, Fz, hA, ⟨Z, hZ⟩, h1, h2, h3, h4, h5, h6⟩ := h.ar
  refine (hc Z w z Fz hZ).mono ?_
  rintro e w' ⟨rfl, Fz', hZ', he⟩
  have hZo : PZ w' z S' Fz' := ⟨Z, hZ'⟩
  have hsub : ∀ k, Fz' k → k < w.heap.size → Fz k := fun k q hk => (he.sub k q).resolve_right fun ⟨q1, _⟩ => by omega
  refine ⟨rfl, fun k => F k ∨ Fz' k, ⟨?_, ?_, ⟨Fa, Fz', hA.keep he.kept fun k q q' => (h2 k q').2 q, hZo, fun k q => .inl (h1 k q), fun k q => ⟨.inr q, fun q' => (h2 k (hsub k q (hA.old k q'))).2 q'⟩, h3, h4, fun q => h5 (hsub _ q (h.old p h.mp)), fun q => h6 (hsub _ q (h.old g h.mg))⟩, .inl h.mp, .inl h.mg, fun k q => ?_, h.n⟩, ⟨fun k q => ?_, he.kept.mono fun k _ q => (h2 k q).1⟩⟩
  · exact (he.kept.block p (h.old p h.mp) h5).trans h.blk
  · exact h.row.block (he.kept.block g (h.old g h.mg) h6)
  · rcases q with q | q
    · exact Nat.lt_of_lt_of_le (h.old k q) he.kept.size
    · exact hZo.old k q
  · rcases q with q | q
    · exact .inl q
    · rcases he.sub k q with q | q
      · exact .inl (h2 k q).1
      · exact .inr q
theorem WX.arq {Q : Ending → World → Prop} {f : FuncId} {args : Array Value} (h : WX w p a z g c A S now tn ta tw tt F) (hc : ∀ Fa, PA w a A Fa → Calls Tryz.prog f args w Q) : Calls Tryz.prog f args w Q := by
  obtain ⟨Fa, Fz, hA, _⟩ := h.ar
  exact hc Fa hA
theorem WX.slq {Q : Ending → World → Prop} {f : FuncId} {args : Array Value} (h : WX w p a z g c A S now tn ta tw tt F) (hc : ∀ Z Fz, PS w z S Z none Fz → Calls Tryz.prog f args w Q) : Calls Tryz.prog f args w Q := by
  obtain ⟨Fa, Fz, hA, ⟨Z, hZ⟩, _⟩ := h.ar
  exact hc Z Fz hZ
end
end Go.Proofs.YtimcdnbfdkpffaaGreat
/- Stage 11: the landed wheel's functions that only read. -/
namespace Go.Proofs.YtimcdnbfdkpffaaGreat
set_option maxRecDepth 100000
open Go.RowKit Go.Shelf
theorem pbyte (w : World) (l : Nat) (hl : l ≤ 3) (t : Nat) (ht : t < 18446744073709551616) : Calls Tryz.prog 141 #[.int .u64 (t : Int), .int .i64 (l : Int)] w (ret (.int .i64 ((t / 256 ^ l % 256 : Nat) : Int)) w) := by
  rcases (show l = 0 ∨ l = 1 ∨ l = 2 ∨ l = 3 by omega) with rfl | rfl | rfl | rfl
  · go_enter Tryz.func141, Tryz.ntmps141
    go_wp2_with fail
    go_ret
    exact ⟨by simp, Below.refl _ _⟩
  · go_enter Tryz.func141, Tryz.ntmps141
    go_wp2_with fail
    go_ret
    exact ⟨by simp, Below.refl _ _⟩
  · go_enter Tryz.func141, Tryz.ntmps141
    go_wp2_with fail
    go_ret
    exact ⟨by simp, Below.refl _ _⟩
  · go_enter Tryz.func141, Tryz.ntmps141
    go_wp2_with fail
    go_ret
    exact ⟨by simp, Below.refl _ _⟩
theorem pslot (w : World) (l : Nat) (hl : l ≤ 3) (t : Nat) (ht : t < 18446744073709551616) : Calls Tryz.prog 143 #[.int .i64 (l : Int), .int .u64 (t : Int)] w (ret (.int .i64 (slt l t : Int)) w) := by
  have HC := Lib.hid fun W => pbyte W l hl t ht
  have hb : (t / 256 ^ l % 256) < 256 := Nat.mod_lt _ (by omega)
  obtain ⟨x, hx⟩ : ∃ x, x = t / 256 ^ l % 256 := ⟨_, rfl⟩
  rw [← hx] at HC hb
  have hs : slt l t = l * 256 + x := by rw [hx]; rfl
  rw [hs]
  clear hs hx
  have z1 : IntKind.i64.wrap ((l : Int) * 256) = (l : Int) * 256 := by rw [IntKind.wrap_i64]; omega
  have z2 : IntKind.i64.wrap ((l : Int) * 256 + (x : Int)) = (l : Int) * 256 + (x : Int) := by rw [IntKind.wrap_i64]; omega
  go_enter Tryz.func143, Tryz.ntmps143
  go_wp2_with (first
    | (go_at_call 141
       refine (HC.out w).mono ?_
       rintro e u1 ⟨rfl, hb1⟩
       have B1 := Lib.hid hb1
       clear hb1))
  go_ret
  exact ⟨by simp, B1.out⟩
section
variable {w : World} {p a z g c : Nat} {A : Ar} {S : Sl} {now tn : Nat} {ta tw tt : Nat → Nat} {F : Nat → Prop}
theorem PA.size {w : World} {p : Nat} {s : Ar} {F : Nat → Prop} (h : PA w p s F) : Calls Tryz.prog 125 #[.pointer (some ⟨p, 0, none⟩)] w (ret (.int .i64 (s.has.length : Int)) w) := by
  obtain ⟨g, c, fd, fs, bf, hx, _⟩ := h
  exact psize_c w p _ _ c (blk_cell hx.blk 0)
theorem pmade (h : WX w p a z g c A S now tn ta tw tt F) : Calls Tryz.prog 80 #[.pointer (some ⟨p, 0, none⟩)] w (ret (.bool true) w) := by
  have x0 : w.cell? ⟨p, 0, none⟩ = some (.pointer (some ⟨a, 0, none⟩)) := blk_cell h.blk 0
  have HC := Lib.hid (h.arq fun Fa hA => hA.size)
  have hpos : (0 : Int) < (A.has.length : Int) := by have := h.pos; omega
  clear h
  go_enter Tryz.func80, Tryz.ntmps80
  go_wp2_with (first
    | (go_at_call 125
       refine HC.out.mono ?_
       rintro e u1 ⟨rfl, hb1⟩
       have B1 := Lib.hid hb1
       clear hb1))
  go_ret
  exact ⟨by simpa using hpos, B1.out⟩
def ovr (now at_ : Nat) : Bool := decide (now = 18446744073709551615) || (decide (now < at_) && decide (4294967296 ≤ at_ - now))
theorem pover (h : WX w p a z g c A S now tn ta tw tt F) (at_ : Nat) (ha : at_ < 18446744073709551616) : Calls Tryz.prog 104 #[.pointer (some ⟨p, 0, none⟩), .int .u64 (at_ : Int)] w (ret (.bool (ovr now at_)) w) := by
  have x3 : w.cell? ⟨p, 3, none⟩ = some (.int .u64 (now : Int)) := blk_cell h.blk 3
  clear h
  by_cases h1 : now = 18446744073709551615
  · have e : ovr now at_ = true := by unfold ovr; simp [h1]
    rw [e]
    subst h1
    go_enter Tryz.func104, Tryz.ntmps104
    go_wp2_with fail
    go_ret
    exact ⟨by simp, Below.refl _ _⟩
  · have b1 : ((now : Int) == 18446744073709551615) = false := by simp; omega
    by_cases h2 : now < at_
    · have b2 : (now : Int) < (at_ : Int) := by omega
      have z1 : IntKind.u64.wrap ((at_ : Int) - (now : Int)) = (at_ : Int) - (now : Int) := by rw [IntKind.wrap_u64]; omega
      have e : ovr now at_ = decide (4294967295 < (at_ : Int) - (now : Int)) := by
        unfold ovr
        simp only [h1, h2, decide_true, decide_false, Bool.false_or, Bool.true_and]
        by_cases h3 : 4294967296 ≤ at_ - now
        · rw [decide_eq_true h3, decide_eq_true (by omega)]
        · rw [decide_eq_false h3, decide_eq_false (by omega)]
      rw [e]
      go_enter Tryz.func104, Tryz.ntmps104
      go_wp2_with fail
      go_ret
      exact ⟨by simp, Below.refl _ _⟩
    · have b2 : ¬ (now : Int) < (at_ : Int) := by omega
      have e : ovr now at_ = false := by unfold ovr; simp [h1, h2]
      rw [e]
      go_enter Tryz.func104, Tryz.ntmps104
      go_wp2_with fail
      go_ret
      exact ⟨by simp, Below.refl _ _⟩
theorem pnow (h : WX w p a z g c A S now tn ta tw tt F) : Calls Tryz.prog 48 #[.pointer (some ⟨p, 0, none⟩)] w (ret (.int .u64 (now : Int)) w) := by
  have x3 : w.cell? ⟨p, 3, none⟩ = some (.int .u64 (now : Int)) := blk_cell h.blk 3
  clear h
  go_enter Tryz.func48, Tryz.ntmps48
  go_wp2_with fail
  go_ret
  exact ⟨rfl, Below.refl _ _⟩
end
end Go.Proofs.YtimcdnbfdkpffaaGreat
