import Derived.Shelf.SlSortCmp.Whole1
import Derived.Ground.SlsfProg
import Derived.Shelf.Lay
import Derived.Test.YtkmakdhlaenaoaaGm24
/- Stage 11: what is due is sorted by the turns. -/
namespace Go.Proofs.Ytkmakdhlaenaoaa
set_option maxRecDepth 100000
open Go.RowKit Go.Shelf
shelf_lay_g SlLaysF.n6 Slsf 6 at Try 60 as Try.sortInts
def cmpN (x y : Nat) : Int := if x < y then -1 else if y < x then 1 else 0
theorem pisnan (w : World) (x : Nat) : Calls Try.prog 77 #[.int .u64 (x : Int)] w fun e w' => e = .returned (.bool false) ∧ w' = w := by
  go_enter Try.func77, Try.ntmps77
  go_wp2_with fail
  go_ret
  exact ⟨by simp, rfl⟩
theorem pcompare (w : World) (x y : Nat) : Calls Try.prog 62 #[.int .u64 (x : Int), .int .u64 (y : Int)] w fun e w' => e = .returned (.int .i64 (cmpN x y)) ∧ w' = w := by
  have HX := Lib.hid (pisnan w x)
  have HY := Lib.hid (pisnan w y)
  rcases Nat.lt_trichotomy x y with h | h | h
  · have b1 : (x : Int) < (y : Int) := by omega
    have e : cmpN x y = -1 := if_pos h
    rw [e]
    clear h e
    go_enter Try.func62, Try.ntmps62
    go_wp2_with fail
    go_at_call 77
    refine HX.out.mono ?_
    rintro e w' ⟨rfl, rfl⟩
    go_wp2_with fail
    go_at_call 77
    refine HY.out.mono ?_
    rintro e w' ⟨rfl, rfl⟩
    go_wp2_with fail
    go_ret
    exact ⟨rfl, rfl⟩
  · subst h
    have b1 : ¬ (x : Int) < (x : Int) := by omega
    have e : cmpN x x = 0 := by unfold cmpN; simp
    rw [e]
    clear e
    go_enter Try.func62, Try.ntmps62
    go_wp2_with fail
    go_at_call 77
    refine HX.out.mono ?_
    rintro e w' ⟨rfl, rfl⟩
    go_wp2_with fail
    go_at_call 77
    refine HY.out.mono ?_
    rintro e w' ⟨rfl, rfl⟩
    go_wp2_with fail
    go_ret
    exact ⟨rfl, rfl⟩
  · have b1 : ¬ (x : Int) < (y : Int) := by omega
    have b2 : (y : Int) < (x : Int) := by omega
    have e : cmpN x y = 1 := by unfold cmpN; rw [if_neg (by omega), if_pos h]
    rw [e]
    clear h e
    go_enter Try.func62, Try.ntmps62
    go_wp2_with fail
    go_at_call 77
    refine HX.out.mono ?_
    rintro e w' ⟨rfl, rfl⟩
    go_wp2_with fail
    go_at_call 77
    refine HY.out.mono ?_
    rintro e w' ⟨rfl, rfl⟩
    go_wp2_with fail
    go_ret
    exact ⟨rfl, rfl⟩
set_option maxHeartbeats 1000000 in
/-- The closure: two cells' turns compared. -/
theorem pfire1 (w : World) (b p g n c : Nat) (tt : Nat → Nat) (hb : w.cell? ⟨b, 0, none⟩ = some (.pointer (some ⟨p, 0, none⟩))) (h2 : w.cell? ⟨p, 2, none⟩ = some (.slice (some ⟨g, 0, none⟩) n c)) (hn : n ≤ 65536) (hc : ∀ j, j < n → w.cell? ⟨g, j * 3 + 2, none⟩ = some (.int .u64 (tt j : Int))) (x y : Nat) (hx : x < n) (hy : y < n) :
    Calls Try.prog 61 #[.int .i64 (x : Int), .int .i64 (y : Int), .pointer (some ⟨b, 0, none⟩)] w fun e w' => e = .returned (.int .i64 (cmpN (tt x) (tt y))) ∧ ∃ k, w' = w.drewN k := by
  have HC := Lib.hid fun k : Nat => Calls.quiet_of_same (w := w) (n := k) (pcompare (w.drewN k) (tt x) (tt y))
  have cx := hc x hx
  have cy := hc y hy
  have i0 : (0 : Int) ≤ (x : Int) := by omega
  have i1 : (x : Int) < (n : Int) := by omega
  have i2 : ((x : Int)).toNat = x := by omega
  have j0 : (0 : Int) ≤ (y : Int) := by omega
  have j1 : (y : Int) < (n : Int) := by omega
  have j2 : ((y : Int)).toNat = y := by omega
  clear hc
  generalize cmpN (tt x) (tt y) = rr at *
  generalize tt x = tx at *
  generalize tt y = ty at *
  go_enter Try.func61, Try.ntmps61
  go_upto_region 1 with fail
  go_quiet (first | (go_at_call 62; with_reducible exact HC.out _))
  go_wp2_with fail
  go_ret
  exact ⟨rfl, nq, rfl⟩
open Go.Sort (Holds putRow putCells mapBlock onCells grow PermIn SortedIn SWO) in
theorem kept_sorted {α : Type} [Inhabited α] (enc : α → Value) (w : World) (blk m : Nat) (dk : Array α) (os : Array Obj) : Kept (fun k => k = blk) w (sortWorld enc w blk 0 m dk os) := by
  refine ⟨rfl, rfl, rfl, ?_, fun k hk hn => ?_⟩
  · unfold sortWorld
    rw [Go.Sort.size_grow, size_putRow]
    exact Nat.le_add_right _ _
  · have hk2 : k < (putRow enc (Go.Sort.ahead w m) blk 0 dk).heap.size := by rw [size_putRow]; exact hk
    unfold sortWorld
    rw [Go.Sort.heap_grow_old _ _ hk2]
    unfold putRow mapBlock
    simp only [Array.getElem?_modify]
    rw [if_neg (fun e => hn e.symm)]
    rfl
open Go.Sort (Holds putRow putCells mapBlock onCells grow PermIn SortedIn SWO) in
theorem sorted_heap {α : Type} [Inhabited α] (enc : α → Value) (w : World) (blk m : Nat) (dk : Array α) (os : Array Obj) (cur : Array Value) (e : TypeId) (h : w.heap[blk]? = some (.cells cur e (0, 0))) : (sortWorld enc w blk 0 m dk os).heap[blk]? = some (.cells (putCells enc 0 dk cur) e (0, 0)) := by
  have hk2 : blk < (putRow enc (Go.Sort.ahead w m) blk 0 dk).heap.size := by rw [size_putRow]; exact lt_heap h
  unfold sortWorld
  rw [Go.Sort.heap_grow_old _ _ hk2]
  unfold putRow mapBlock
  simp only [Array.getElem?_modify, if_true]
  have : (Go.Sort.ahead w m).heap[blk]? = some (.cells cur e (0, 0)) := h
  rw [this]
  rfl
open Go.Sort (Holds putRow putCells mapBlock onCells grow PermIn SortedIn SWO) in
/-- A row sorted lies as it lay. -/
theorem own_sorted {α : Type} [Inhabited α] {enc : α → Value} {w : World} {base : Nat} {e : TypeId} {g n d : Nat} {f : Nat → Value} (h : OwnC w base e 1 (some ⟨g, 0, none⟩) n d f) (m : Nat) (dk : Array α) (hs : dk.size = n) (os : Array Obj) :
    OwnC (sortWorld enc w g 0 m dk os) base e 1 (some ⟨g, 0, none⟩) n d (fun k => enc dk[k]!) := by
  rcases h.2 with ⟨hh, _⟩ | ⟨g', cap, cur, hv, hb, hh, hc, hm, hcs, ht⟩
  · cases hh
  · injection hv with h1 _ h3
    injection h1 with h1
    injection h1 with h1
    subst h1 h3
    refine ⟨by rw [vals_len], .inr ⟨g, d, _, rfl, hb, sorted_heap enc w g m dk os cur e hh, hc, hm, ?_, ?_⟩⟩
    · unfold putCells
      rw [Array.size_mapIdx]
      exact hcs
    · rw [Nat.mul_one] at hcs ht ⊢
      apply List.ext_getElem?
      intro k
      by_cases hk : k < n
      · rw [List.getElem?_take, if_pos hk, vals_get hk, Array.getElem?_toList]
        unfold putCells
        rw [Array.getElem?_mapIdx, Array.getElem?_eq_getElem (by omega)]
        simp only [Option.map_some]
        rw [if_pos ⟨Nat.zero_le _, by omega⟩, Nat.sub_zero]
      · rw [List.getElem?_eq_none (by rw [List.length_take]; omega), List.getElem?_eq_none (by rw [vals_len]; omega)]
theorem cmpN_lt (x y : Nat) : decide (cmpN x y < 0) = decide (x < y) := by
  unfold cmpN
  by_cases h1 : x < y
  · simp [h1]
  · by_cases h2 : y < x
    · simp [h1, h2]
    · simp [h1, h2]
open Go.Sort (Holds putRow putCells mapBlock onCells grow PermIn SortedIn SWO) in
/-- What is due, sorted by the turns. -/
theorem psort {w : World} {p ap z g c : Nat} {A : Ar} {S : Sl} {now tn : Nat} {ta tw tt : Nat → Nat} {F : Nat → Prop} (h : WX w p ap z g c A S now tn ta tw tt F) {b gb base d : Nat} (hb : w.heap[b]? = some (.cells #[.pointer (some ⟨p, 0, none⟩)] 25 (0, 0))) {D : List Nat} (hD : ∀ x, x ∈ D → x < A.has.length) (hl : D.length ≤ 65536)
    (ho : OwnC w base 3 1 (some ⟨gb, 0, none⟩) D.length d (fun k => .int .i64 (D.getD k 0 : Int))) (hgF : ¬ F gb) (hgb : gb ≠ b) :
    Calls Try.prog 60 #[.slice (some ⟨gb, 0, none⟩) D.length d, .func (.func 61) #[] #[.pointer (some ⟨b, 0, none⟩)]] w fun e w' => e = .returned (.tuple #[]) ∧ ∃ D' : List Nat, D'.Perm D ∧ D'.Pairwise (fun x y => ¬ tt y < tt x) ∧
      OwnC w' base 3 1 (some ⟨gb, 0, none⟩) D.length d (fun k => .int .i64 (D'.getD k 0 : Int)) ∧ Kept (fun k => k = gb) w w' := by
  have hpos := h.pos
  letI : Inhabited (Fin A.has.length) := ⟨⟨0, hpos⟩⟩
  let enc : Fin A.has.length → Value := fun x => .int .i64 (x.val : Int)
  let cf : Fin A.has.length → Fin A.has.length → Int := fun x y => cmpN (tt x.val) (tt y.val)
  have hlt : ∀ x y, ltOf cf x y = decide (tt x.val < tt y.val) := fun x y => cmpN_lt _ _
  have hO : SWO (ltOf cf) := by
    refine ⟨fun x => ?_, fun x y z h1 h2 => ?_, fun x y z h1 h2 => ?_⟩
    · rw [hlt]
      simp
    · rw [hlt] at *
      simp at *
      omega
    · rw [hlt] at *
      simp at *
      omega
  let dl : List (Fin A.has.length) := D.pmap (fun x hx => ⟨x, hx⟩) hD
  have hdl : dl.length = D.length := List.length_pmap ..
  have hdm : dl.map (fun x => x.val) = D := by
    show (D.pmap _ hD).map _ = D
    rw [List.map_pmap]
    simp
  have hds : dl.toArray.size = D.length := hdl
  have hlies := ho.rd
  have hgl := ho.ltA
  have eg : ∀ args W, (callFunc 61 args).run Try.prog W = .ok (.enter 61 args) W := enters_of Try.func61 (by kernel_rfl) rfl
  have hcmp : CmpReads Try.prog 61 #[.pointer (some ⟨b, 0, none⟩)] enc cf gb 0 dl.toArray.size w := fun m os dk hs x y => by
    have hk := kept_sorted enc w gb m dk os
    have hx := h.keep hk fun k hF e => hgF (by rw [← e]; exact hF)
    exact pfire1 _ b p g A.has.length c tt (blk_cell ((hk.block b (lt_heap hb) (fun e => hgb e.symm)).trans hb) 0) (blk_cell hx.blk 2) hx.n (fun j hj => hx.t2 hj) x.val y.val x.isLt y.isLt
  have hget : ∀ k, k < D.length → enc dl.toArray[k]! = .int .i64 (D.getD k 0 : Int) := fun k hk => by
    have hk2 : k < dl.length := by rw [hdl]; exact hk
    have e1 : dl.toArray[k]! = dl[k] := by
      rw [getElem!_pos dl.toArray k (by simpa using hk2)]
      rfl
    rw [e1]
    have e2 : D[k]? = some (dl[k]).val := by
      rw [← hdm, List.getElem?_map, List.getElem?_eq_getElem hk2]
      rfl
    show Value.int .i64 ((dl[k]).val : Int) = _
    rw [List.getD_eq_getElem?_getD, e2]
    rfl
  have hH : Holds enc w gb 0 dl.toArray := fun j hj => by
    have hj' : j < D.length := by rw [← hds]; exact hj
    rw [hget j hj', Nat.zero_add]
    obtain ⟨g', e, _, _, hc, hf⟩ := ho.lies (by omega)
    injection e with e
    injection e with e
    subst e
    exact ⟨hc j (by omega), hf j⟩
  have hcon := Any.slices_SortFunc Try.sortInts enc (fun _ => rfl) cf hO 61 #[.pointer (some ⟨b, 0, none⟩)] gb 0 d dl.toArray w eg hcmp.lays hH hgl (by rw [hds]; omega)
  rw [hds] at hcon
  refine Calls.mono hcon ?_
  rintro e w' ⟨rfl, d', n, os, hp, hs, rfl⟩
  have hsz : d'.size = D.length := hp.1.trans hds
  refine ⟨rfl, d'.toList.map (fun x => x.val), ?_, ?_, ?_, kept_sorted enc w gb n d' os⟩
  · have hperm := hp.2.2
    rw [show d'.extract 0 D.length = d' by rw [← hsz]; simp, show dl.toArray.extract 0 D.length = dl.toArray by rw [← hds]; simp] at hperm
    have := hperm.map (fun x => x.val)
    rw [show dl.toArray.toList = dl from rfl, hdm] at this
    exact this
  · rw [List.pairwise_map, List.pairwise_iff_getElem]
    intro i j hi hj hij
    have hi' : i < d'.size := by simpa using hi
    have hj' : j < d'.size := by simpa using hj
    have := hs i j (Nat.zero_le _) hij (by omega)
    rw [hlt, getElem!_pos d' i hi', getElem!_pos d' j hj'] at this
    simpa using this
  · refine (own_sorted (enc := enc) ho n d' hsz os).same fun k hk => ?_
    have hk' : k < d'.size := by omega
    show _ = Value.int .i64 ((d'[k]!).val : Int)
    rw [getElem!_pos d' k hk', List.getD_eq_getElem?_getD, List.getElem?_map, List.getElem?_eq_getElem (by simpa using hk')]
    rfl
end Go.Proofs.Ytkmakdhlaenaoaa
/- Stage 11: nothing sorted. -/
namespace Go.Proofs.Ytkmakdhlaenaoaa
set_option maxRecDepth 100000
open Go.RowKit Go.Shelf
theorem plen_none (w : World) : Calls Try.prog 76 #[.int .u64 0] w fun e w' => e = .returned (.int .i64 0) ∧ w' = w := by
  have HC := Lib.hid (plen64 0 (by omega) w)
  have h0 : Lib.bitLen 0 = 0 := Lib.bitLenAux_zero _
  rw [h0] at HC
  clear h0
  go_enter Try.func76, Try.ntmps76
  go_wp2_with (first
    | (go_at_call 71
       refine HC.out.mono ?_
       rintro e w' ⟨rfl, rfl⟩))
  go_ret
  exact ⟨rfl, rfl⟩
theorem pins_none (w : World) (B : Option Addr) (d : Nat) (fv : Value) : Calls Try.prog 80 #[.slice B 0 d, .int .i64 0, .int .i64 0, fv] w fun e w' => e = .returned (.tuple #[]) ∧ w' = w := by
  go_enter Try.func80, Try.ntmps80
  go_wp2_with fail
  refine wp_loop_rounds 1 ?_
  rw [rounds_succ]
  go_wp2_with fail
  go_end0
  exact ⟨rfl, rfl⟩
theorem ppdq_none (w : World) (B : Option Addr) (d : Nat) (fv : Value) : Calls Try.prog 75 #[.slice B 0 d, .int .i64 0, .int .i64 0, .int .i64 0, fv] w fun e w' => e = .returned (.tuple #[]) ∧ w' = w := by
  have HC := Lib.hid (pins_none w B d fv)
  go_enter Try.func75, Try.ntmps75
  go_wp2_with fail
  refine wp_loop_rounds 1 ?_
  rw [rounds_succ]
  go_wp2_with (first
    | (go_at_call 80
       refine HC.out.mono ?_
       rintro e w' ⟨rfl, rfl⟩))
  (try simp only [Exit.inBlock, Exit.then])
  refine bodyPost_ret (results_none rfl _ _ _) rfl ?_
  exact ⟨rfl, rfl⟩
theorem psort_none (w : World) (B : Option Addr) (d : Nat) (fv : Value) : Calls Try.prog 60 #[.slice B 0 d, fv] w fun e w' => e = .returned (.tuple #[]) ∧ w' = w := by
  have HC := Lib.hid (ppdq_none w B d fv)
  have HL := Lib.hid (plen_none w)
  go_enter Try.func60, Try.ntmps60
  go_wp2_with (first
    | (go_at_call 76
       refine HL.out.mono ?_
       rintro e w' ⟨rfl, rfl⟩)
    | (go_at_call 75
       refine HC.out.mono ?_
       rintro e w' ⟨rfl, rfl⟩))
  go_end0
  exact ⟨rfl, rfl⟩
end Go.Proofs.Ytkmakdhlaenaoaa
