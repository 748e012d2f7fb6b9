/- Stage 19: the page's examples. -/
import Derived.Test.YtfchmmojhfjibaaMgj
namespace Go.Proofs.Ytfchmmojhfjibaa
set_option maxRecDepth 100000
open Go.RowKit Go.Shelf
theorem szP7 : szP ((7 : Nat) : Int) = true := szP_of (by omega) (by omega) (ld_is (by omega) ⟨by omega, by omega, fun k h1 h2 => by
  rcases (show k = 2 ∨ k = 3 ∨ k = 4 ∨ k = 5 ∨ k = 6 by omega) with rfl | rfl | rfl | rfl | rfl <;> decide⟩)
theorem szP8 : szP 8 = false := by
  cases h : szP 8 with
  | false => rfl
  | true =>
    have h1 := szP_le (x := 8) h
    have h2 := ld_at (n := 8) (by omega)
    rw [h1.2.2] at h2
    exact absurd (by decide) (h2.low 2 (by omega) (by omega))
def nmA : ByteArray := ⟨#[97]⟩
def nmB : ByteArray := ⟨#[98]⟩
def l1W : List Wt := [⟨nmA, 1⟩, ⟨nmB, 1⟩]
def l2W : List Wt := [⟨nmA, 2⟩, ⟨nmB, 1⟩]
def l3W : List Wt := [⟨nmA, 0⟩]
theorem ab_lt : ltB nmA nmB = true := by
  unfold ltB
  rw [ByteArray.toList_eq, ByteArray.toList_eq]
  decide
theorem ok_two {x y : Int} (hx : 0 ≤ x ∧ x ≤ 3) (hy : 0 ≤ y ∧ y ≤ 3) : OkL [⟨nmA, x⟩, ⟨nmB, y⟩] ((7 : Nat) : Int) := by
  refine ⟨szP7, (by show 2 ≤ 16; omega), fun i hi => ?_, fun i k hi hk => ?_, ?_⟩
  · rcases (show i = 0 ∨ i = 1 by simp at hi; omega) with rfl | rfl
    · exact ⟨(by show nmA.size ≠ 0; decide), (by show nmA.size ≤ 16; decide), hx.1, by show x ≤ 100; omega⟩
    · exact ⟨(by show nmB.size ≠ 0; decide), (by show nmB.size ≤ 16; decide), hy.1, by show y ≤ 100; omega⟩
  · obtain ⟨rfl, rfl⟩ : k = 0 ∧ i = 1 := by simp at hi; omega
    show nmA ≠ nmB
    intro e
    have := ab_lt
    rw [e, ltB_irrefl] at this
    cases this
  · show 0 + x + y ≤ 7
    omega
theorem ord_two {x y : Int} (hx : 0 < x) (hy : 0 < y) : ordL [⟨nmA, x⟩, ⟨nmB, y⟩] = [0, 1] := by
  refine (ordL_is ⟨?_, fun i => ?_⟩).symm
  · exact List.pairwise_cons.2 ⟨fun b hb => by
      obtain rfl : b = 1 := by simpa using hb
      exact .inl ab_lt, List.pairwise_cons.2 ⟨fun b hb => (by simp at hb), .nil⟩⟩
  · constructor
    · intro h
      rcases (show i = 0 ∨ i = 1 by simpa using h) with rfl | rfl
      · exact ⟨(by show 0 < 2; omega), hx⟩
      · exact ⟨(by show 1 < 2; omega), hy⟩
    · rintro ⟨h, _⟩
      rcases (show i = 0 ∨ i = 1 by simp at h; omega) with rfl | rfl <;> decide
theorem sh_two {x y : Nat} (hx : 0 < x) (hy : 0 < y) (j : Nat) (hj : j < 2) : cntI (tabV [⟨nmA, (x : Int)⟩, ⟨nmB, (y : Int)⟩] 7) (j : Int) 7 = cntC (whoN [x, y]) j 7 := by
  have ho := ord_two (x := (x : Int)) (y := (y : Int)) (by omega) (by omega)
  have h := tab_cnt (l := [⟨nmA, (x : Int)⟩, ⟨nmB, (y : Int)⟩]) (m := 7) szP7 (by rw [ho]; simp) (k := j) (by rw [ho]; exact hj)
  rw [ho] at h
  have e1 : oa [0, 1] j = j := by
    rcases (show j = 0 ∨ j = 1 by omega) with rfl | rfl <;> rfl
  have e2 : wsL [⟨nmA, (x : Int)⟩, ⟨nmB, (y : Int)⟩] [0, 1] = [x, y] := by
    show [((x : Int)).toNat, ((y : Int)).toNat] = _
    rw [Int.toNat_natCast, Int.toNat_natCast]
  rw [e1, e2] at h
  exact h
theorem may_l1 : mayW l1W 7 = true := mayW_iff.2 (ok_two (by omega) (by omega))
theorem may_l2 : mayW l2W 7 = true := mayW_iff.2 (ok_two (by omega) (by omega))
theorem may_l3 : mayW l3W 7 = true := mayW_iff.2 ⟨szP7, by decide, fun i hi => by
    obtain rfl : i = 0 := by simp [l3W] at hi; omega
    exact ⟨by decide, by decide, by decide, by decide⟩, fun i k hi hk => by simp [l3W] at hi; omega, by decide⟩
theorem may_n8 : mayW [] 8 = false := by
  rw [← Bool.not_eq_true, mayW_iff]
  intro h
  have := h.sz
  rw [szP8] at this
  cases this
theorem sh_l1 (j : Nat) (hj : j < 2) : shV (tabV l1W 7) 7 j = (fun j => if j = 0 then 4 else 3 : Nat → Int) j := by
  unfold shV l1W
  rw [show ([⟨nmA, 1⟩, ⟨nmB, 1⟩] : List Wt) = [⟨nmA, ((1 : Nat) : Int)⟩, ⟨nmB, ((1 : Nat) : Int)⟩] from rfl, sh_two (by omega) (by omega) j hj]
  rcases (show j = 0 ∨ j = 1 by omega) with rfl | rfl <;> decide
theorem sh_l2 (j : Nat) (hj : j < 2) : shV (tabV l2W 7) 7 j = (fun j => if j = 0 then 5 else 2 : Nat → Int) j := by
  unfold shV l2W
  rw [show ([⟨nmA, 2⟩, ⟨nmB, 1⟩] : List Wt) = [⟨nmA, ((2 : Nat) : Int)⟩, ⟨nmB, ((1 : Nat) : Int)⟩] from rfl, sh_two (by omega) (by omega) j hj]
  rcases (show j = 0 ∨ j = 1 by omega) with rfl | rfl <;> decide
theorem ord_l3 : ordL l3W = [] := ordL_nil.2 fun x hx => by
  obtain rfl : x = 0 := by simp [l3W] at hx; omega
  decide
theorem sh_l3 (j : Nat) (hj : j < 1) : shV (tabV l3W 7) 7 j = (fun _ => 0 : Nat → Int) j := by
  obtain rfl : j = 0 := by omega
  unfold shV
  have : ∀ n, cntI (tabV l3W 7) ((0 : Nat) : Int) n = 0 := fun n => by
    induction n with
    | zero => rfl
    | succ n ih =>
      unfold cntI
      rw [ih, tabV_nil ord_l3, if_neg (by decide)]
  rw [this]
  rfl
/-- A literal. -/
theorem lw_lit {w : World} {b : Nat} {cs : Array Value} {t : TypeId} {l : List Wt} (h : w.heap[b]? = some (.cells cs t (0, 0))) (hb : b < w.heap.size) (hl : l.length ≤ 100000) (hc : ∀ k, k < l.length * 2 → cs[k]? = some (wf l k)) : Lw w w.heap.size (some ⟨b, 0, none⟩) l.length l :=
  ⟨Nat.le_refl _, by omega, hl, .inr ⟨b, 0, rfl, hb, fun k hk => by
    rw [Nat.zero_add, blk_cell h k]
    exact hc k hk⟩⟩
theorem cs_two (x y : Int) (k : Nat) (hk : k < 4) : (#[.string nmA, .int .i64 x, .string nmB, .int .i64 y] : Array Value)[k]? = some (wf [⟨nmA, x⟩, ⟨nmB, y⟩] k) := by
  rcases (show k = 0 ∨ k = 1 ∨ k = 2 ∨ k = 3 by omega) with rfl | rfl | rfl | rfl <;> rfl
theorem cs_one (x : Int) (k : Nat) (hk : k < 2) : (#[.string nmA, .int .i64 x] : Array Value)[k]? = some (wf [⟨nmA, x⟩] k) := by
  rcases (show k = 0 ∨ k = 1 by omega) with rfl | rfl <;> rfl
/-- A table that is told. -/
theorem tab_yes (HP : MgP) {l : List Wt} (hm : mayW l 7 = true) {A : Option Addr} {c n : Nat} (hn : n = l.length) {w : World} (h : Lw w w.heap.size A c l) : Calls Try.prog 15 #[.slice A n c, .int .i64 7] w fun e w' => ∃ A2 c2, e = .returned (.tuple #[.slice A2 7 c2, .int .i64 0]) ∧ 7 ≤ c2 ∧ c2 ≤ 9223372036854775807 ∧ RdC w' w'.heap.size A2 7 (iV (tabV l 7)) ∧ Below w.heap.size w w' := by
  subst hn
  refine (HP.table l A c 7 w h).mono ?_
  rintro e w' ⟨A2, c2, rfl, h1, h2, h3, h4⟩
  have e1 : tbN l 7 = 7 := by unfold tbN; rw [if_pos hm]; rfl
  have e2 : tbE l 7 = 0 := by unfold tbE; rw [if_pos hm]
  rw [e1] at h1 h3
  exact ⟨A2, c2, by rw [e1, e2], h1, h2, h3, h4⟩
theorem tab_no (HP : MgP) {l : List Wt} {m : Int} (hm : mayW l m = false) {A : Option Addr} {c n : Nat} (hn : n = l.length) {w : World} (h : Lw w w.heap.size A c l) : Calls Try.prog 15 #[.slice A n c, .int .i64 m] w fun e w' => ∃ A2 c2, e = .returned (.tuple #[.slice A2 0 c2, .int .i64 2]) ∧ Below w.heap.size w w' := by
  subst hn
  refine (HP.table l A c m w h).mono ?_
  rintro e w' ⟨A2, c2, rfl, h1, h2, h3, h4⟩
  have e1 : tbN l m = 0 := by unfold tbN; rw [if_neg (by rw [hm]; decide)]
  have e2 : tbE l m = 2 := by unfold tbE; rw [if_neg (by rw [hm]; decide)]
  exact ⟨A2, c2, by rw [e1, e2], h4⟩
theorem sh_yes (HP : MgP) {f g : Nat → Int} {A : Option Addr} {c K : Nat} {w : World} (h : RdC w w.heap.size A 7 (iV f)) (h7 : 7 ≤ c) (h9 : c ≤ 9223372036854775807) (hK : shL (K : Int) = K) (hg : ∀ j, j < K → shV f 7 j = g j) : Calls Try.prog 13 #[.slice A 7 c, .int .i64 (K : Int)] w (OutI K g w) := by
  have q := HP.shares f A 7 c (K : Int) w h (by omega) h7 h9
  rw [hK] at q
  refine q.mono ?_
  rintro e w' ⟨A2, c2, rfl, q1, q2, q3, q4⟩
  exact ⟨A2, c2, rfl, q1, q2, q3.same fun j hj => by unfold iV; rw [hg j hj], q4⟩
theorem iv_two (x y : Int) (k : Nat) (hk : k < 2) : (#[.int .i64 x, .int .i64 y] : Array Value)[k]? = some (iV (fun j => if j = 0 then x else y) k) := by
  rcases (show k = 0 ∨ k = 1 by omega) with rfl | rfl <;> rfl
theorem rd_lit {w : World} {b : Nat} {cs : Array Value} {t : TypeId} {n : Nat} {f : Nat → Value} (h : w.heap[b]? = some (.cells cs t (0, 0))) (hc : ∀ k, k < n → cs[k]? = some (f k)) : RdC w w.heap.size (some ⟨b, 0, none⟩) n f :=
  .inr ⟨b, 0, rfl, lt_heap h, fun k hk => by
    rw [Nat.zero_add, blk_cell h k]
    exact hc k hk⟩
set_option maxHeartbeats 2000000 in
theorem mknown_any (HP : MgP) (w : World) : Calls Try.prog 7 #[] w (ret (.bool true) w) := by
  have HM1 : Hid ((w.alloc (.cells #[.string nmA, .int .i64 1, .string nmB, .int .i64 1] 34)).heap[w.heap.size]? = some (.cells #[.string nmA, .int .i64 1, .string nmB, .int .i64 1] 34 (0, 0))) := Lib.hid (heap_alloc_new w _)
  have HA1 := Lib.hid (below_alloc w (.cells #[.string nmA, .int .i64 1, .string nmB, .int .i64 1] 34))
  have HC1 := Lib.hid (tab_yes HP may_l1 (c := 2) (n := 2) rfl (lw_lit (l := l1W) HM1.out (lt_heap HM1.out) (by decide) (fun k hk => cs_two _ _ k hk)))
  go_enter Try.func7, Try.ntmps7
  go_upto_region 2 with (first
    | (go_at_call 15
       refine HC1.out.mono ?_
       rintro e v1 ⟨T1, c1, rfl, h7, h9, hr, hb⟩
       have HR1 := Lib.hid hr
       have HT1 := Lib.hid (show 7 ≤ c1 ∧ c1 ≤ 9223372036854775807 from ⟨h7, h9⟩)
       have HB1 := Lib.hid (HA1.out.trans (hb.mono HA1.out.size))
       clear hr hb h7 h9))
  clear HM1 HC1
  have HM2 : Hid ((v1.alloc (.cells #[.string nmA, .int .i64 2, .string nmB, .int .i64 1] 34)).heap[v1.heap.size]? = some (.cells #[.string nmA, .int .i64 2, .string nmB, .int .i64 1] 34 (0, 0))) := Lib.hid (heap_alloc_new v1 _)
  have HA2 := Lib.hid (below_alloc v1 (.cells #[.string nmA, .int .i64 2, .string nmB, .int .i64 1] 34))
  have HC2 := Lib.hid (tab_yes HP may_l2 (c := 2) (n := 2) rfl (lw_lit (l := l2W) HM2.out (lt_heap HM2.out) (by decide) (fun k hk => cs_two _ _ k hk)))
  go_upto_region 3 with (first
    | (go_at_call 15
       refine HC2.out.mono ?_
       rintro e v2 ⟨T2, c2, rfl, h7, h9, hr, hb⟩
       have HR2 := Lib.hid hr
       have HT2 := Lib.hid (show 7 ≤ c2 ∧ c2 ≤ 9223372036854775807 from ⟨h7, h9⟩)
       have HD2 := Lib.hid (HA2.out.trans (hb.mono HA2.out.size))
       have HB2 := Lib.hid (HB1.out.trans (HD2.out.mono HB1.out.size))
       clear hr hb h7 h9))
  clear HM2 HC2
  have HM3 : Hid ((v2.alloc (.cells #[.string nmA, .int .i64 0] 34)).heap[v2.heap.size]? = some (.cells #[.string nmA, .int .i64 0] 34 (0, 0))) := Lib.hid (heap_alloc_new v2 _)
  have HA3 := Lib.hid (below_alloc v2 (.cells #[.string nmA, .int .i64 0] 34))
  have HC3 := Lib.hid (tab_yes HP may_l3 (c := 1) (n := 1) rfl (lw_lit (l := l3W) HM3.out (lt_heap HM3.out) (by decide) (fun k hk => cs_one _ k hk)))
  go_upto_region 4 with (first
    | (go_at_call 15
       refine HC3.out.mono ?_
       rintro e v3 ⟨T3, c3, rfl, h7, h9, hr, hb⟩
       have HR3 := Lib.hid hr
       have HT3 := Lib.hid (show 7 ≤ c3 ∧ c3 ≤ 9223372036854775807 from ⟨h7, h9⟩)
       have HD3 := Lib.hid (HA3.out.trans (hb.mono HA3.out.size))
       have HB3 := Lib.hid (HB2.out.trans (HD3.out.mono HB2.out.size))
       clear hr hb h7 h9))
  clear HM3 HC3
  have HC4 := Lib.hid (tab_no HP may_n8 (A := none) (c := 0) (n := 0) rfl (w := v3) ⟨Nat.le_refl _, by omega, by decide, .inl rfl⟩)
  go_upto_region 5 with (first
    | (go_at_call 15
       refine HC4.out.mono ?_
       rintro e v4 ⟨T4, c4, rfl, hb⟩
       have HB4 := Lib.hid (HB3.out.trans (hb.mono HB3.out.size))
       have HD4 := Lib.hid hb
       clear hb))
  have HR1b := Lib.hid (((((HR1.out.keep HD2.out).more HD2.out.size).keep HD3.out).more HD3.out.size).keep HD4.out |>.more HD4.out.size)
  have HR2b := Lib.hid ((((HR2.out.keep HD3.out).more HD3.out.size).keep HD4.out).more HD4.out.size)
  have HR3b := Lib.hid ((HR3.out.keep HD4.out).more HD4.out.size)
  have HS1 := Lib.hid (sh_yes HP (K := 2) HR1b.out HT1.out.1 HT1.out.2 rfl sh_l1)
  obtain ⟨b3, o3, rfl, hb3, hc3⟩ : ∃ b o, T3 = some ⟨b, o, none⟩ ∧ b < v4.heap.size ∧ v4.cell? ⟨b, o, none⟩ = some (.int .i64 (-1)) := by
    rcases HR3b.out with h | ⟨b, o, e, hb, hc⟩
    · omega
    · refine ⟨b, o, e, hb, ?_⟩
      have := hc 0 (by omega)
      unfold iV at this
      rw [tabV_nil ord_l3] at this
      exact this
  have HC3 := Lib.hid hc3
  have HL3 := Lib.hid hb3
  clear hc3 hb3 HR1 HR2 HR3 HD2 HD3 HD4 HA1 HA2 HA3 HB1 HB2 HB3
  have K0 : Hid (∀ W, Below v4.heap.size v4 W → W.cell? ⟨b3, o3, none⟩ = some (.int .i64 (-1))) := Lib.hid fun W h => (h.cell (p := ⟨b3, o3, none⟩) HL3.out).trans HC3.out
  go_wp2_with (first
    | (go_at_call 13
       with_reducible refine Calls.mono HS1.out ?_
       rintro e x1 ⟨A5, c5, rfl, _, _, hr, hb⟩
       have HX1 := Lib.hid hb
       have HY1 : Hid (RdC (x1.alloc (.cells #[.int .i64 4, .int .i64 3] 3)) (x1.alloc (.cells #[.int .i64 4, .int .i64 3] 3)).heap.size (some ⟨x1.heap.size, 0, none⟩) 2 (iV fun j => if j = 0 then 4 else 3)) := Lib.hid (rd_lit (heap_alloc_new x1 _) (iv_two 4 3))
       have HZ1 := Lib.hid ((hr.keep (below_alloc x1 (.cells #[.int .i64 4, .int .i64 3] 3))).more (alloc_le x1 (.cells #[.int .i64 4, .int .i64 3] 3)))
       have HE1 := Lib.hid (eqI_any _ _ 2 A5 _ c5 2 _ (by omega) HZ1.out HY1.out fun _ _ => rfl)
       have HW1 := Lib.hid (hb.trans ((below_alloc x1 (.cells #[.int .i64 4, .int .i64 3] 3)).mono hb.size))
       clear hr hb)
    | (go_at_call 10
       with_reducible refine Calls.mono HE1.out ?_
       rintro e x2 ⟨rfl, hb⟩
       have HX2 := Lib.hid (HW1.out.trans (hb.mono HW1.out.size))
       have HS2 := Lib.hid (sh_yes HP (K := 2) ((HR2b.out.keep HX2.out).more HX2.out.size) HT2.out.1 HT2.out.2 rfl sh_l2)
       clear hb)
    | (go_at_call 13
       with_reducible refine Calls.mono HS2.out ?_
       rintro e x3 ⟨A6, c6, rfl, _, _, hr, hb⟩
       have HX3 := Lib.hid (HX2.out.trans (hb.mono HX2.out.size))
       have HY3 : Hid (RdC (x3.alloc (.cells #[.int .i64 5, .int .i64 2] 3)) (x3.alloc (.cells #[.int .i64 5, .int .i64 2] 3)).heap.size (some ⟨x3.heap.size, 0, none⟩) 2 (iV fun j => if j = 0 then 5 else 2)) := Lib.hid (rd_lit (heap_alloc_new x3 _) (iv_two 5 2))
       have HZ3 := Lib.hid ((hr.keep (below_alloc x3 (.cells #[.int .i64 5, .int .i64 2] 3))).more (alloc_le x3 (.cells #[.int .i64 5, .int .i64 2] 3)))
       have HE3 := Lib.hid (eqI_any _ _ 2 A6 _ c6 2 _ (by omega) HZ3.out HY3.out fun _ _ => rfl)
       have HW3 := Lib.hid (HX3.out.trans ((below_alloc x3 (.cells #[.int .i64 5, .int .i64 2] 3)).mono HX3.out.size))
       clear hr hb)
    | (go_at_call 10
       with_reducible refine Calls.mono HE3.out ?_
       rintro e x4 ⟨rfl, hb⟩
       have HX4 := Lib.hid (HW3.out.trans (hb.mono HW3.out.size))
       have HS3 := Lib.hid (sh_yes HP (K := 1) ((HR3b.out.keep HX4.out).more HX4.out.size) HT3.out.1 HT3.out.2 rfl sh_l3)
       clear hb)
    | (go_at_call 13
       with_reducible refine Calls.mono HS3.out ?_
       rintro e x5 ⟨A7, c7, rfl, _, _, hr, hb⟩
       have HX5 := Lib.hid (HX4.out.trans (hb.mono HX4.out.size))
       have HY5 : Hid (RdC (x5.alloc (.cells #[.int .i64 0] 3)) (x5.alloc (.cells #[.int .i64 0] 3)).heap.size (some ⟨x5.heap.size, 0, none⟩) 1 (iV fun _ => 0)) := Lib.hid (rd_lit (heap_alloc_new x5 _) fun k hk => by
         obtain rfl : k = 0 := by omega
         rfl)
       have HZ5 := Lib.hid ((hr.keep (below_alloc x5 (.cells #[.int .i64 0] 3))).more (alloc_le x5 (.cells #[.int .i64 0] 3)))
       have HE5 := Lib.hid (eqI_any _ _ 1 A7 _ c7 1 _ (by omega) HZ5.out HY5.out fun _ _ => rfl)
       have HW5 := Lib.hid (HX5.out.trans ((below_alloc x5 (.cells #[.int .i64 0] 3)).mono HX5.out.size))
       clear hr hb)
    | (go_at_call 10
       with_reducible refine Calls.mono HE5.out ?_
       rintro e x6 ⟨rfl, hb⟩
       have HX6 := Lib.hid (HW5.out.trans (hb.mono HW5.out.size))
       have xc := K0.out _ HX6.out
       clear hb))
  go_ret
  exact ⟨rfl, HB4.out.trans (HX6.out.mono HB4.out.size)⟩
end Go.Proofs.Ytfchmmojhfjibaa
