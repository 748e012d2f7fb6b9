/- Stage 10: tells, over whatever is told. -/
import Derived.Test.YthlnhkkjpjbmeaaWd
namespace Go.Proofs.Ythlnhkkjpjbmeaa
set_option maxRecDepth 100000
open Go.RowKit Go.Shelf
attribute [local go_sem] Oper.semAt_some
/-- What a list of slots, whichever, tells. -/
structure It (wb : World) (pa : Option Addr) (l : Int) (L : List Nat) (Z : (Nat → Prop) → World → Prop) (Y : Nat × Nat → (Nat → Prop) → List Nat → Nat → World → Prop) (Am : Nat × Nat → (Nat → Prop) → List Nat → World → Prop) : Prop where
  bel : ∀ {X W}, Z X W → Below wb.heap.size wb W
  lt : ∀ {X W}, Z X W → ∀ k, X k → k < W.heap.size
  less : ∀ {X X' W}, Z X W → (∀ k, X' k → X k) → Z X' W
  more : ∀ {X X' W W'}, Z X W → Below W.heap.size W W' → (∀ k, X' k → W.heap.size ≤ k ∧ k < W'.heap.size) → Z (Or2 X X') W'
  kept : ∀ {X W W' R}, Z X W → Kept R W W' → (∀ k, R k → k < W.heap.size → X k ∧ wb.heap.size ≤ k) → Z X W'
  yk : ∀ {g X pre x W W' R}, Y g X pre x W → Kept R W W' → (∀ k, R k → k < W.heap.size → X k ∧ wb.heap.size ≤ k) → Y g X pre x W'
  ak : ∀ {g X pre W W' R}, Am g X pre W → Kept R W W' → (∀ k, R k → k < W.heap.size → X k ∧ wb.heap.size ≤ k) → Am g X pre W'
  ypre : ∀ {g X pre x W}, Y g X pre x W → pre ++ [x] <+: L
  ya : ∀ {g X pre x W}, Y g X pre x W → Am g X (pre ++ [x]) W
  len : ∀ {X W}, Z X W → Calls Try.prog 20 #[.pointer pa, .int .i64 l] W (ret (.int .i64 (L.length : Int)) W)
  iter : ∀ b2 b3, SeqU Fence.wide 12 Try.prog 33 #[.pointer (some ⟨b2, 0, none⟩), .pointer (some ⟨b3, 0, none⟩)] nEnc
    (fun X W => Z (Or2 X (fun k => k = b2 ∨ k = b3)) W ∧ (∀ k, (k = b2 ∨ k = b3) → ¬ X k) ∧ W.heap[b2]? = some (.cells #[.pointer pa] 24 (0, 0)) ∧ W.heap[b3]? = some (.cells #[.int .i64 l] 3 (0, 0))) Y Am (fun X xs W => xs = L ∧ Z X W) (fun X pre W => pre <+: L ∧ Z X W)
section
variable {wb : World} {pa : Option Addr} {l : Int} {L : List Nat} {Z : (Nat → Prop) → World → Prop} {Y : Nat × Nat → (Nat → Prop) → List Nat → Nat → World → Prop} {Am : Nat × Nat → (Nat → Prop) → List Nat → World → Prop}
theorem It.step (hI : It wb pa l L Z Y Am) {X : Nat → Prop} {W W' : World} (h : Z X W) (hb : Below W.heap.size W W') : Z X W' := hI.kept h (Kept.of_below hb fun _ => False) fun _ q => q.elim
theorem kept_put {W : World} (b : Nat) (o : Obj) : Kept (fun k => k = b) W (W.putObj b o) := Kept.grownBy (grownBy_putObj' W b o) fun k e => by
  injection e with e
  exact e.symm
theorem kept_set {W : World} (b : Nat) (v : Value) : Kept (fun k => k = b) W (W.setCell ⟨b, 0, none⟩ v) := (Kept.refl (fun k => k = b) W).setCell (p := ⟨b, 0, none⟩) (.inl rfl) v
theorem It.put (hI : It wb pa l L Z Y Am) {X : Nat → Prop} {W : World} (h : Z X W) {b : Nat} (hb : wb.heap.size ≤ b) (hx : X b) (o : Obj) : Z X (W.putObj b o) := hI.kept h (kept_put b o) fun k e _ => by subst e; exact ⟨hx, hb⟩
theorem It.set (hI : It wb pa l L Z Y Am) {X : Nat → Prop} {W : World} (h : Z X W) {b : Nat} (hb : wb.heap.size ≤ b) (hx : X b) (v : Value) : Z X (W.setCell ⟨b, 0, none⟩ v) := hI.kept h (kept_set b v) fun k e _ => by subst e; exact ⟨hx, hb⟩
set_option maxHeartbeats 4000000 in
theorem tells_any (hI : It wb pa l L Z Y Am) (hL : L.length ≤ 65536) (X : Nat → Prop) (w : World) (hZ : Z X w) (V : Option Addr) (n c : Nat) (hn : n = L.length) (_hnc : n ≤ c) (_hc9 : c ≤ 9223372036854775807) (hrd : RdG w X V n (ints L)) :
    Calls Try.prog 22 #[.pointer pa, .int .i64 l, .slice V n c] w fun e w' => e = .returned (.bool true) ∧ Z X w' ∧ ∀ k, X k → w'.heap[k]? = w.heap[k]? := by
  have HI := Lib.hid hI
  have HRD := Lib.hid hrd
  have HXL := Lib.hid (hI.lt hZ)
  have HBW := Lib.hid (hI.bel hZ)
  have HNN := Lib.hid hn
  have hn9 : n ≤ 65536 := by omega
  have hZ1 : Z (Or2 X (fun k => k = w.heap.size ∨ k = w.heap.size + 1)) ((w.alloc (.cells #[.slice V n c] 43)).alloc (.cells #[.bool false] 4)) := hI.more hZ ((below_alloc w _).alloc (below_alloc w _).size _) fun k hk => by simp; omega
  have hB1 : Below w.heap.size w ((w.alloc (.cells #[.slice V n c] 43)).alloc (.cells #[.bool false] 4)) := (below_alloc w _).alloc (below_alloc w _).size _
  have hz1 : ((w.alloc (.cells #[.slice V n c] 43)).alloc (.cells #[.bool false] 4)).heap.size = w.heap.size + 2 := by simp
  obtain ⟨bv, hbv⟩ : ∃ b, b = w.heap.size := ⟨_, rfl⟩
  have HV1 : Hid (((w.alloc (.cells #[.slice V n c] 43)).alloc (.cells #[.bool false] 4)).heap[bv]? = some (.cells #[.slice V n c] 43 (0, 0))) := Lib.hid (by rw [hbv]; exact blk_old (heap_alloc_new w _) _)
  have HR1 : Hid (((w.alloc (.cells #[.slice V n c] 43)).alloc (.cells #[.bool false] 4)).heap[bv + 1]? = some (.cells #[.bool false] 4 (0, 0))) := Lib.hid (by
    rw [hbv]
    have h := heap_alloc_new (w.alloc (.cells #[.slice V n c] 43)) (.cells #[.bool false] 4)
    have hz : (w.alloc (.cells #[.slice V n c] 43)).heap.size = w.heap.size + 1 := by simp
    rwa [hz] at h)
  have HZ1 := Lib.hid hZ1
  have HB1w := Lib.hid hB1
  have HBL : Hid (bv < ((w.alloc (.cells #[.slice V n c] 43)).alloc (.cells #[.bool false] 4)).heap.size) := Lib.hid (by omega)
  have hz1' : ((w.alloc (.cells #[.slice V n c] 43)).alloc (.cells #[.bool false] 4)).heap.size = bv + 2 := by rw [hz1, hbv]
  have HSZ := Lib.hid hz1'
  clear hI hrd hZ hZ1 hB1 hn hz1 hz1'
  refine (callsIn_wide (n := 13)).1 ?_
  refine callsIn_of_wp_marks Try.func22 rfl trivial ?_ rfl
  refine wpIn_wide.2 ?_
  simp only [Try.ntmps22, List.size_toArray, List.length_cons, List.length_nil, Nat.reduceAdd, Nat.reduceSub, Array.replicate_succ, Array.replicate_zero, List.push_toArray, List.append_toArray, List.nil_append, List.cons_append]
  go_upto_region 1 with fail
  change Code.wp _ _ _ _ ((w.alloc (.cells #[.slice V n c] 43)).alloc (.cells #[.bool false] 4))
  generalize (w.alloc (.cells #[.slice V n c] 43)).alloc (.cells #[.bool false] 4) = u at *
  rw [← hbv] at HZ1 ⊢
  have HBVW := Lib.hid hbv
  clear hbv
  have HLN : Hid (∀ U, Below u.heap.size u U → Calls Try.prog 20 #[.pointer pa, .int .i64 l] U (ret (.int .i64 (n : Int)) U)) := Lib.hid fun U hU => by
    rw [HNN.out]
    exact HI.out.len (HI.out.step HZ1.out hU)
  have HBV : Hid (u.cell? ⟨bv, 0, none⟩ = some (.slice V n c)) := Lib.hid (blk_cell HV1.out 0)
  rename_i Kc hKc
  refine wp_region_invG (fun a0 l' a W => l'.size = 12 ∧ a0.tmps.size = 43 ∧ Below u.heap.size u W ∧ ∃ lb : Array Value, FrU a0 ([(0, 9, .pointer pa), (1, 10, .int .i64 l), (2, 11, .func (.func 33) #[] lb), (3, 12, .bool false), (4, 13, .bool false), (5, 14, .pointer pa), (6, 15, .int .i64 l), (7, 16, .int .i64 (n : Int)), (8, 17, .slice V n c), (9, 18, .int .i64 (n : Int)), (10, 19, .bool false), (11, 20, .bool false)] : List (Nat × Nat × Value)) l' a) ?_ ?_ ?_ ?_ ?_ ?_
  · kernel_rfl
  · exact fun _ _ _ h => h.1
  · kernel_rfl
  · exact ⟨by simp, rfl, (Below.refl _ _).drew, #[], FrU.start _ _ _⟩
  · intro l' a W i5 o hI ho hn hdep
    obtain ⟨hl, hsz, hB, lb, hF⟩ := hI
    match i5, ho, hn with
    | 0, ho, hn =>
      simp only [List.getElem?_toArray, List.getElem?_cons_zero, Option.some.injEq] at ho
      subst ho
      refine ⟨rfl, ?_⟩
      have h0 : a.tmps[0]?.getD undef = .pointer pa := hF.base 0 (by simp) rfl
      exact owp_value (.pointer pa) (w' := W) (by clear hdep; go_simp) ⟨by simp [hl], hsz, hB, lb, hF.put 0 9 _ (by rw [hsz]; decide) (by simp) (by simp) (by simp)⟩
    | 1, ho, hn =>
      simp only [List.getElem?_toArray, List.getElem?_cons_zero, List.getElem?_cons_succ, Option.some.injEq] at ho
      subst ho
      refine ⟨rfl, ?_⟩
      have h1 : a.tmps[1]?.getD undef = .int .i64 l := hF.base 1 (by simp) rfl
      exact owp_value (.int .i64 l) (w' := W) (by clear hdep; go_simp) ⟨by simp [hl], hsz, hB, lb, hF.put 1 10 _ (by rw [hsz]; decide) (by simp) (by simp) (by simp)⟩
    | 2, ho, hn =>
      simp only [List.getElem?_toArray, List.getElem?_cons_zero, List.getElem?_cons_succ, Option.some.injEq] at ho
      subst ho
      refine ⟨rfl, ?_⟩
      have h9 : a.tmps[9]?.getD undef = .pointer pa := hF.slot (i := 0) (s := 9) (v := .pointer pa) (by simp) (hdep ⟨0, .data⟩ (by simp) rfl)
      have h10 : a.tmps[10]?.getD undef = .int .i64 l := hF.slot (i := 1) (s := 10) (v := .int .i64 l) (by simp) (hdep ⟨1, .data⟩ (by simp) rfl)
      refine owp_call (fn := 19) (args := #[.pointer pa, .int .i64 l]) (by clear hdep; go_simp) ?_
      refine (pof_any W pa l).mono ?_
      rintro e w' ⟨rfl, rfl⟩
      exact ⟨_, rfl, by simp [hl], hsz, hB.trans (((below_alloc W _).alloc (below_alloc W _).size _).mono hB.size), #[.pointer (some ⟨W.heap.size, 0, none⟩), .pointer (some ⟨W.heap.size + 1, 0, none⟩)], hF.put 2 11 _ (by rw [hsz]; decide) (by simp) (by simp) (by simp)⟩
    | 3, ho, hn =>
      simp only [List.getElem?_toArray, List.getElem?_cons_zero, List.getElem?_cons_succ, Option.some.injEq] at ho
      subst ho
      refine ⟨rfl, ?_⟩
      have h11 : a.tmps[11]?.getD undef = .func (.func 33) #[] lb := hF.slot (i := 2) (s := 11) (v := .func (.func 33) #[] lb) (by simp) (hdep ⟨2, .data⟩ (by simp) rfl)
      have hfn : (binOp BinOp.eql 46 (.func (.func 33) #[] lb) .nilFunc).run Try.prog W = .ok (.bool false) W := by kernel_rfl
      exact owp_value (.bool false) (w' := W) (by clear hdep; go_simp) ⟨by simp [hl], hsz, hB, lb, hF.put 3 12 _ (by rw [hsz]; decide) (by simp) (by simp) (by simp)⟩
    | 4, ho, hn =>
      simp only [List.getElem?_toArray, List.getElem?_cons_zero, List.getElem?_cons_succ, Option.some.injEq] at ho
      subst ho
      refine ⟨rfl, ?_⟩
      have h12 : a.tmps[12]?.getD undef = .bool false := hF.slot (i := 3) (s := 12) (v := .bool false) (by simp) (hdep ⟨3, .data⟩ (by simp) rfl)
      exact owp_value (.bool false) (w' := W) (by clear hdep; go_simp) ⟨by simp [hl], hsz, hB, lb, hF.put 4 13 _ (by rw [hsz]; decide) (by simp) (by simp) (by simp)⟩
    | 5, ho, hn =>
      simp only [List.getElem?_toArray, List.getElem?_cons_zero, List.getElem?_cons_succ, Option.some.injEq] at ho
      subst ho
      have g13 : a.tmps[13]?.getD undef = .bool false := hF.slot (i := 4) (s := 13) (v := .bool false) (by simp) (hdep ⟨4, .guard⟩ (by simp) rfl)
      refine ⟨wanted_of (j := 4) (s := 13) (b := false) rfl rfl rfl g13, ?_⟩
      have h0 : a.tmps[0]?.getD undef = .pointer pa := hF.base 0 (by simp) rfl
      exact owp_value (.pointer pa) (w' := W) (by clear hdep; go_simp) ⟨by simp [hl], hsz, hB, lb, hF.put 5 14 _ (by rw [hsz]; decide) (by simp) (by simp) (by simp)⟩
    | 6, ho, hn =>
      simp only [List.getElem?_toArray, List.getElem?_cons_zero, List.getElem?_cons_succ, Option.some.injEq] at ho
      subst ho
      have g13 : a.tmps[13]?.getD undef = .bool false := hF.slot (i := 4) (s := 13) (v := .bool false) (by simp) (hdep ⟨4, .guard⟩ (by simp) rfl)
      refine ⟨wanted_of (j := 4) (s := 13) (b := false) rfl rfl rfl g13, ?_⟩
      have h1 : a.tmps[1]?.getD undef = .int .i64 l := hF.base 1 (by simp) rfl
      exact owp_value (.int .i64 l) (w' := W) (by clear hdep; go_simp) ⟨by simp [hl], hsz, hB, lb, hF.put 6 15 _ (by rw [hsz]; decide) (by simp) (by simp) (by simp)⟩
    | 7, ho, hn =>
      simp only [List.getElem?_toArray, List.getElem?_cons_zero, List.getElem?_cons_succ, Option.some.injEq] at ho
      subst ho
      have g13 : a.tmps[13]?.getD undef = .bool false := hF.slot (i := 4) (s := 13) (v := .bool false) (by simp) (hdep ⟨4, .guard⟩ (by simp) rfl)
      refine ⟨wanted_of (j := 4) (s := 13) (b := false) rfl rfl rfl g13, ?_⟩
      have h14 : a.tmps[14]?.getD undef = .pointer pa := hF.slot (i := 5) (s := 14) (v := .pointer pa) (by simp) (hdep ⟨5, .data⟩ (by simp) rfl)
      have h15 : a.tmps[15]?.getD undef = .int .i64 l := hF.slot (i := 6) (s := 15) (v := .int .i64 l) (by simp) (hdep ⟨6, .data⟩ (by simp) rfl)
      refine owp_call (fn := 20) (args := #[.pointer pa, .int .i64 l]) (by clear hdep; go_simp) ?_
      refine (HLN.out W hB).mono ?_
      rintro e w' ⟨rfl, hb⟩
      exact ⟨_, rfl, by simp [hl], hsz, hB.trans (hb.mono hB.size), lb, hF.put 7 16 _ (by rw [hsz]; decide) (by simp) (by simp) (by simp)⟩
    | 8, ho, hn =>
      simp only [List.getElem?_toArray, List.getElem?_cons_zero, List.getElem?_cons_succ, Option.some.injEq] at ho
      subst ho
      have g13 : a.tmps[13]?.getD undef = .bool false := hF.slot (i := 4) (s := 13) (v := .bool false) (by simp) (hdep ⟨4, .guard⟩ (by simp) rfl)
      refine ⟨wanted_of (j := 4) (s := 13) (b := false) rfl rfl rfl g13, ?_⟩
      have h5 : a.tmps[5]?.getD undef = .pointer (some ⟨bv, 0, none⟩) := hF.base 5 (by simp) rfl
      have hld := (hB.cell (p := ⟨bv, 0, none⟩) HBL.out).trans HBV.out
      exact owp_value (.slice V n c) (w' := W) (by clear hdep; go_simp) ⟨by simp [hl], hsz, hB, lb, hF.put 8 17 _ (by rw [hsz]; decide) (by simp) (by simp) (by simp)⟩
    | 9, ho, hn =>
      simp only [List.getElem?_toArray, List.getElem?_cons_zero, List.getElem?_cons_succ, Option.some.injEq] at ho
      subst ho
      have g13 : a.tmps[13]?.getD undef = .bool false := hF.slot (i := 4) (s := 13) (v := .bool false) (by simp) (hdep ⟨4, .guard⟩ (by simp) rfl)
      refine ⟨wanted_of (j := 4) (s := 13) (b := false) rfl rfl rfl g13, ?_⟩
      have h17 : a.tmps[17]?.getD undef = .slice V n c := hF.slot (i := 8) (s := 17) (v := .slice V n c) (by simp) (hdep ⟨8, .data⟩ (by simp) rfl)
      exact owp_value (.int .i64 (n : Int)) (w' := W) (by clear hdep; go_simp) ⟨by simp [hl], hsz, hB, lb, hF.put 9 18 _ (by rw [hsz]; decide) (by simp) (by simp) (by simp)⟩
    | 10, ho, hn =>
      simp only [List.getElem?_toArray, List.getElem?_cons_zero, List.getElem?_cons_succ, Option.some.injEq] at ho
      subst ho
      have g13 : a.tmps[13]?.getD undef = .bool false := hF.slot (i := 4) (s := 13) (v := .bool false) (by simp) (hdep ⟨4, .guard⟩ (by simp) rfl)
      refine ⟨wanted_of (j := 4) (s := 13) (b := false) rfl rfl rfl g13, ?_⟩
      have h16 : a.tmps[16]?.getD undef = .int .i64 (n : Int) := hF.slot (i := 7) (s := 16) (v := .int .i64 (n : Int)) (by simp) (hdep ⟨7, .data⟩ (by simp) rfl)
      have h18 : a.tmps[18]?.getD undef = .int .i64 (n : Int) := hF.slot (i := 9) (s := 18) (v := .int .i64 (n : Int)) (by simp) (hdep ⟨9, .data⟩ (by simp) rfl)
      exact owp_value (.bool false) (w' := W) (by clear hdep; go_simp) ⟨by simp [hl], hsz, hB, lb, hF.put 10 19 _ (by rw [hsz]; decide) (by simp) (by simp) (by simp)⟩
    | 11, ho, hn =>
      simp only [List.getElem?_toArray, List.getElem?_cons_zero, List.getElem?_cons_succ, Option.some.injEq] at ho
      subst ho
      refine ⟨rfl, ?_⟩
      have h13 : a.tmps[13]?.getD undef = .bool false := hF.slot (i := 4) (s := 13) (v := .bool false) (by simp) (hdep ⟨4, .data⟩ (by simp) rfl)
      have h19 : a.tmps[19]?.getD undef = .bool false := hF.slot (i := 10) (s := 19) (v := .bool false) (by simp) (hdep ⟨10, .data⟩ (by simp) rfl)
      exact owp_value (.bool false) (w' := W) (by clear hdep; go_simp) ⟨by simp [hl], hsz, hB, lb, hF.put 11 20 _ (by rw [hsz]; decide) (by simp) (by simp) (by simp)⟩
    | i5 + 12, ho, hn => simp at ho
  · intro l' a W1 hI hall
    obtain ⟨hl, hsz, hB, lb, hF⟩ := hI
    have hall : ∀ i, i < 12 → l'.getD i false = true := hall
    have ha := hF.all (by simp only [List.mem_cons, List.not_mem_nil, or_false]; rintro x (rfl | rfl | rfl | rfl | rfl | rfl | rfl | rfl | rfl | rfl | rfl | rfl) <;> exact hall _ (by dsimp only; decide)) (by simp) (by rw [hsz]; simp)
    subst ha
    have HB1 := Lib.hid hB
    clear hF hall hl hsz hB
    refine hKc _ _ ?_
    simp only [setAll, List.setIfInBounds_toArray, List.set_cons_succ, List.set_cons_zero]
    clear HLN HBV HBL
    have HV2 : Hid (W1.heap[bv]? = some (.cells #[.slice V n c] 43 (0, 0))) := Lib.hid ((HB1.out.block bv (lt_heap HV1.out)).trans HV1.out)
    have HR2 : Hid (W1.heap[bv + 1]? = some (.cells #[.bool false] 4 (0, 0))) := Lib.hid ((HB1.out.block (bv + 1) (lt_heap HR1.out)).trans HR1.out)
    have HZ2 := Lib.hid (HI.out.step HZ1.out HB1.out)
    have HB2w := Lib.hid (HB1w.out.trans (HB1.out.mono HB1w.out.size))
    clear HZ1 HB1w HB1 HV1 HR1 HSZ
    go_upto_region 4 with fail
    change Code.wp _ _ _ _ (W1.alloc (.cells #[.int .i64 0] 3))
    obtain ⟨bn, hbn⟩ : ∃ b, b = W1.heap.size := ⟨_, rfl⟩
    have HBn : Hid (Below W1.heap.size W1 (W1.alloc (.cells #[.int .i64 0] 3))) := Lib.hid (below_alloc W1 _)
    have HN3 : Hid ((W1.alloc (.cells #[.int .i64 0] 3)).heap[bn]? = some (.cells #[.int .i64 ((0 : Nat) : Int)] 3 (0, 0))) := Lib.hid (by
      rw [hbn]
      exact heap_alloc_new W1 _)
    have hz3 : (W1.alloc (.cells #[.int .i64 0] 3)).heap.size = W1.heap.size + 1 := by simp
    have HZ3 : Hid (Z (Or2 (Or2 X (fun k => k = bv ∨ k = bv + 1)) (fun k => k = bn)) (W1.alloc (.cells #[.int .i64 0] 3))) := Lib.hid (HI.out.more HZ2.out HBn.out fun k hk => by rw [hk, hbn, hz3]; omega)
    have HV3 : Hid ((W1.alloc (.cells #[.int .i64 0] 3)).heap[bv]? = some (.cells #[.slice V n c] 43 (0, 0))) := Lib.hid ((HBn.out.block bv (lt_heap HV2.out)).trans HV2.out)
    have HR3 : Hid ((W1.alloc (.cells #[.int .i64 0] 3)).heap[bv + 1]? = some (.cells #[.bool false] 4 (0, 0))) := Lib.hid ((HBn.out.block (bv + 1) (lt_heap HR2.out)).trans HR2.out)
    have HB3w := Lib.hid (HB2w.out.trans (HBn.out.mono HB2w.out.size))
    have HBNV : Hid (bv + 1 < bn) := Lib.hid (by rw [hbn]; exact lt_heap HR2.out)
    generalize W1.alloc (.cells #[.int .i64 0] 3) = v3 at *
    rw [← hbn]
    clear HZ2 HV2 HR2 HB2w HBn hz3 hbn
    go_wp2_with (first
      | (go_at_call 19
         refine (pof_any v3 _ _).mono ?_
         rintro e v5 ⟨rfl, hv5⟩
         have HV5 := Lib.hid hv5
         clear hv5))
    obtain ⟨bp, hbp⟩ : ∃ b, b = v3.heap.size := ⟨_, rfl⟩
    have HBB : Hid (Below v3.heap.size v3 v5) := Lib.hid (by rw [HV5.out]; exact (below_alloc v3 _).alloc (below_alloc v3 _).size _)
    have hz5 : v5.heap.size = bp + 2 := by rw [HV5.out, hbp]; simp
    have HP5 : Hid (v5.heap[bp]? = some (.cells #[.pointer pa] 24 (0, 0))) := Lib.hid (by
      rw [HV5.out, hbp]
      exact blk_old (heap_alloc_new v3 _) _)
    have HW5 : Hid (v5.heap[bp + 1]? = some (.cells #[.int .i64 l] 3 (0, 0))) := Lib.hid (by
      rw [HV5.out, hbp]
      have h := heap_alloc_new (v3.alloc (.cells #[.pointer pa] 24)) (.cells #[.int .i64 l] 3)
      have hz : (v3.alloc (.cells #[.pointer pa] 24)).heap.size = v3.heap.size + 1 := by simp
      rwa [hz] at h)
    obtain ⟨X1, hX1⟩ : ∃ X1, X1 = Or2 (Or2 X (fun k => k = bv ∨ k = bv + 1)) (fun k => k = bn) := ⟨_, rfl⟩
    rw [← hX1] at HZ3
    have HLT : Hid (∀ k, X1 k → k < bp) := Lib.hid fun k q => by rw [hbp]; exact HI.out.lt HZ3.out k q
    have HZ5 : Hid (Z (Or2 X1 (fun k => k = bp ∨ k = bp + 1)) v5) := Lib.hid (HI.out.more HZ3.out HBB.out fun k hk => by omega)
    have HV6 : Hid (v5.heap[bv]? = some (.cells #[.slice V n c] 43 (0, 0))) := Lib.hid ((HBB.out.block bv (lt_heap HV3.out)).trans HV3.out)
    have HR6 : Hid (v5.heap[bv + 1]? = some (.cells #[.bool false] 4 (0, 0))) := Lib.hid ((HBB.out.block (bv + 1) (lt_heap HR3.out)).trans HR3.out)
    have HN6 : Hid (v5.heap[bn]? = some (.cells #[.int .i64 ((0 : Nat) : Int)] 3 (0, 0))) := Lib.hid ((HBB.out.block bn (lt_heap HN3.out)).trans HN3.out)
    have HB6w := Lib.hid (HB3w.out.trans (HBB.out.mono HB3w.out.size))
    have HXX : Hid (∀ k, X k → X1 k ∧ k < bv) := Lib.hid fun k q => ⟨by rw [hX1]; exact .inl (.inl q), by rw [HBVW.out]; exact HXL.out k q⟩
    have HXV : Hid (X1 bv ∧ X1 (bv + 1) ∧ X1 bn) := Lib.hid (by
      rw [hX1]
      exact ⟨.inl (.inr (.inl rfl)), .inl (.inr (.inr rfl)), .inr rfl⟩)
    have HWBv : Hid (wb.heap.size ≤ bv) := Lib.hid (by rw [HBVW.out]; exact HBW.out.size)
    rw [← hbp]
    clear HV5 HBB HZ3 HV3 HR3 HN3 HB3w hbp hX1
    refine (wpIn_wide (n := 13)).1 ?_
    refine wpIn_rangeFunc_U (γ := Nat × Nat) (α := Nat) (n := 13) rfl (by omega) (gf := 33) (lb := #[.pointer (some ⟨bp, 0, none⟩), .pointer (some ⟨bp + 1, 0, none⟩)]) rfl trivial (fun args w => enters_of Try.func33 (by kernel_rfl) rfl args w)
      (HI.out.iter bp (bp + 1)) (fun _ => rfl) X1 (fun k => k = v5.heap.size ∨ k = v5.heap.size + 1) (fun k q => by have := HLT.out k q; omega) rfl
      ?hY ?hA ?hZd ?hZs ?hZ0
      (fun Xi pre U => Xi = X1 ∧ (∀ k, X k → U.heap[k]? = w.heap[k]?) ∧ U.heap[bv]? = some (.cells #[.slice V n c] 43 (0, 0)) ∧ U.heap[bv + 1]? = some (.cells #[.bool false] 4 (0, 0)) ∧ U.heap[bn]? = some (.cells #[.int .i64 (pre.length : Int)] 3 (0, 0)))
      (fun _ _ _ _ => False) ?hI ?hIx ⟨rfl, fun k q => HB6w.out.block k (HXL.out k q), HV6.out, HR6.out, HN6.out⟩
      (fun x => { tmps := #[.pointer pa, .int .i64 l, .slice V n c, undef, undef, .pointer (some ⟨bv, 0, none⟩), .pointer (some ⟨bv + 1, 0, none⟩), .pointer (some ⟨bn, 0, none⟩), .int .i64 (x : Int), .pointer pa, .int .i64 l, .func (.func 33) #[] lb, .bool false, .bool false, .pointer pa, .int .i64 l, .int .i64 (n : Int), .slice V n c, .int .i64 (n : Int), .bool false, .bool false, .pointer pa, .int .i64 l, .func (.func 33) #[] #[.pointer (some ⟨bp, 0, none⟩), .pointer (some ⟨bp + 1, 0, none⟩)], .int .i64 (x : Int), undef, undef, undef, undef, undef, undef, undef, undef, undef, undef, undef, undef, undef, undef, undef, undef, undef, undef], defers := [] }) ?assign ?body ?done ?stop
    case hY => exact fun g X2 pre x U l1 o1 h1 h2 h3 => HI.out.yk h3 (kept_put l1 o1) fun k e _ => by subst e; exact ⟨h2, by have := HWBv.out; have := lt_heap HV6.out; omega⟩
    case hA => exact fun g X2 pre U l1 o1 h1 h2 h3 => HI.out.ak h3 (kept_put l1 o1) fun k e _ => by subst e; exact ⟨h2, by have := HWBv.out; have := lt_heap HV6.out; omega⟩
    case hZd => exact fun X2 pre U l1 o1 h1 h2 h3 => ⟨h3.1, HI.out.put h3.2 (by have := HWBv.out; have := lt_heap HV6.out; omega) h2 o1⟩
    case hZs => exact fun X2 pre U l1 o1 h1 h2 h3 => ⟨h3.1, HI.out.put h3.2 (by have := HWBv.out; have := lt_heap HV6.out; omega) h2 o1⟩
    case hZ0 =>
      intro o1
      have hb2 : Below v5.heap.size v5 ((v5.alloc (.deferred (some []))).alloc o1) := (below_alloc v5 _).alloc (below_alloc v5 _).size _
      refine ⟨HI.out.less (HI.out.more (X' := fun k => k = v5.heap.size ∨ k = v5.heap.size + 1) HZ5.out hb2 fun k hk => by simp; omega) fun k hk => ?_, fun k hk hx => ?_, (hb2.block bp (lt_heap HP5.out)).trans HP5.out, (hb2.block (bp + 1) (lt_heap HW5.out)).trans HW5.out⟩
      · rcases hk with (hk | hk) | hk
        · exact .inl (.inl hk)
        · exact .inr hk
        · exact .inl (.inr hk)
      · have hp5 := lt_heap HW5.out
        rcases hx with hx | hx
        · have := HLT.out k hx
          omega
        · omega
    case hI =>
      rintro Xi s1 U U' ⟨rfl, h1, h2, h3, h4⟩ hs hk
      exact ⟨rfl, fun k q => (hk k (HXX.out k q).1).trans (h1 k q), (hk bv HXV.out.1).trans h2, (hk (bv + 1) HXV.out.2.1).trans h3, (hk bn HXV.out.2.2).trans h4⟩
    case hIx => exact fun _ _ _ _ _ h _ _ => h.elim
    case assign =>
      intro l1 x U K hK
      unfold nEnc
      gi_wp2
      simpa using hK
    case body =>
      rintro lk g Xi K pre x U ⟨rfl, h1, h2, h3, h4⟩ hy hK
      have hpre := HI.out.ypre hy
      have hlen : pre.length < L.length := by
        have := hpre.length_le
        rw [List.length_append] at this
        exact this
      have hLx : L[pre.length]? = some x := by
        obtain ⟨t, ht⟩ := hpre
        rw [← ht]
        simp
      obtain ⟨j, hj⟩ : ∃ j, j = pre.length := ⟨_, rfl⟩
      rw [← hj] at h4 hlen hLx
      have HH1 := Lib.hid h1
      have HH2 := Lib.hid h2
      have HH3 := Lib.hid h3
      have HH4 := Lib.hid h4
      have HYY := Lib.hid hy
      have HKK := Lib.hid hK
      have HJ := Lib.hid hj
      have xv : U.cell? ⟨bv, 0, none⟩ = some (.slice V n c) := blk_cell h2 0
      have xn : U.cell? ⟨bn, 0, none⟩ = some (.int .i64 (j : Int)) := blk_cell h4 0
      have yn : U.frozen? ⟨bn, 0, none⟩ = false := blk_free h4 0
      have hjn : j < n := by rw [HNN.out]; exact hlen
      have hrdU : ∃ b off, V = some ⟨b, off, none⟩ ∧ U.cell? ⟨b, off + j, none⟩ = some (.int .i64 (x : Int)) := by
        rcases HRD.out with e | ⟨b, off, e, hb, _, hcl⟩
        · omega
        · refine ⟨b, off, e, ?_⟩
          rw [kept_cell_block (p := ⟨b, off + j, none⟩) (h1 b hb), hcl j hjn, ints_at hLx]
      obtain ⟨b, off, rfl, xe⟩ := hrdU
      have j0 : (0 : Int) ≤ (j : Int) := by omega
      have j1 : (j : Int) < (n : Int) := by omega
      have j2 : ¬ (n : Int) ≤ (j : Int) := by omega
      have hxx : ((x : Int) != (x : Int)) = false := by simp
      have zj : IntKind.i64.wrap ((j : Int) + 1) = ((j + 1 : Nat) : Int) := by rw [IntKind.wrap_i64]; omega
      clear h1 h2 h3 h4 hy hK hj hpre hlen hLx
      gi_wp2
      refine ⟨Xi, ⟨rfl, fun k q => ?_, ?_, ?_, ?_⟩, HI.out.ak (HI.out.ya HYY.out) (kept_set bn _) fun k e _ => ?_, fun k q => ⟨HKK.out k q, ?_⟩⟩
      · have hne : k ≠ bn := fun e => by
          have := (HXX.out k q).2
          have := HBNV.out
          omega
        exact (Below.heap_setCell U ⟨bn, 0, none⟩ _ k hne).trans (HH1.out k q)
      · exact (Below.heap_setCell U ⟨bn, 0, none⟩ _ bv (by have := HBNV.out; show bv ≠ bn; omega)).trans HH2.out
      · exact (Below.heap_setCell U ⟨bn, 0, none⟩ _ (bv + 1) (by have := HBNV.out; show bv + 1 ≠ bn; omega)).trans HH3.out
      · have e : ((pre ++ [x]).length : Int) = ((j + 1 : Nat) : Int) := by rw [List.length_append, HJ.out]; rfl
        rw [e]
        exact blk_set HH4.out 0 _
      · subst e
        exact ⟨.inl HXV.out.2.2, by have := HWBv.out; have := HBNV.out; omega⟩
      · exact Below.heap_setCell U ⟨bn, 0, none⟩ _ k fun e => HKK.out k q (by
          have e : k = bn := e
          subst e
          exact HXV.out.2.2)
    case done =>
      rintro Xi xs U ⟨rfl, h1, h2, h3, h4⟩ ⟨rfl, hz⟩ hd hK
      have xv : U.cell? ⟨bv, 0, none⟩ = some (.slice V n c) := blk_cell h2 0
      have xr : U.cell? ⟨bv + 1, 0, none⟩ = some (.bool false) := blk_cell h3 0
      have yr : U.frozen? ⟨bv + 1, 0, none⟩ = false := blk_free h3 0
      have xn : U.cell? ⟨bn, 0, none⟩ = some (.int .i64 (n : Int)) := by rw [HNN.out]; exact blk_cell h4 0
      have hnn : ((n : Int) == (n : Int)) = true := by simp
      have HH1 := Lib.hid h1
      have HH3 := Lib.hid h3
      have HZZ := Lib.hid hz
      have HD := Lib.hid hd
      have hKD := hK
      clear h1 h2 h3 h4 hz hd
      go_wp2_with fail
      have hne : v5.heap.size ≠ bv + 1 := by
        have := lt_heap HR6.out
        omega
      have hK2 : (U.setCell ⟨bv + 1, 0, none⟩ (.bool true)).heap[v5.heap.size]? = some (.deferred (some [])) := (Below.heap_setCell U ⟨bv + 1, 0, none⟩ _ v5.heap.size hne).trans hKD
      refine ⟨by simp, .inl ⟨_, _, rfl, run_takeDeferred hK2, ?_⟩⟩
      have hr : ((U.setCell ⟨bv + 1, 0, none⟩ (.bool true)).putObj v5.heap.size (.deferred none)).heap[bv + 1]? = some (.cells #[.bool true] 4 (0, 0)) := (World.putObj_heap_other (by omega)).trans (blk_set HH3.out 0 _)
      refine ⟨_, results_flag rfl _ _ (bv + 1) true rfl (blk_cell hr 0), rfl, HI.out.less (HI.out.put (HI.out.set HZZ.out (b := bv + 1) (by have := HWBv.out; omega) (.inl HXV.out.2.1) _) (b := v5.heap.size) (by have := HWBv.out; have := lt_heap HV6.out; omega) (.inr (.inl rfl)) _) fun k q => .inl (HXX.out k q).1, fun k q => ?_⟩
      have hk := (HXX.out k q).2
      refine (World.putObj_heap_other (by have := lt_heap HV6.out; omega)).trans ((Below.heap_setCell U ⟨bv + 1, 0, none⟩ _ k (by show k ≠ bv + 1; omega)).trans (HH1.out k q))
    case stop => exact fun _ _ _ _ h => h.elim
end
end Go.Proofs.Ythlnhkkjpjbmeaa
