import Derived.Defers
import Derived.Recover
import Derived.Test.YtimcdnbfdkpffaaGreatGm21
/- Stage 13: the landed table: a function that is handed in, asked under a deferred recover. -/
namespace Go.Proofs.YtimcdnbfdkpffaaGreat
set_option maxRecDepth 100000
open Go.RowKit Go.Shelf
/-- The deferred closure of a frame that returns: recover finds nothing. -/
theorem says_idle (w : World) : CallsD Tryz.prog 195 #[] .returning w fun e u' w' => e = .returned (.tuple #[]) ∧ u' = .returning ∧ w' = w := by
  refine callsD_of_wpS Tryz.func195 rfl fun c₀ cs hu => ?_
  first
    | (apply wpS_seq
       apply wpS_region)
    | apply wpS_region
  simp [wpOpsS, go_sem, recoverD, hu, Tryz.ntmps195]
  first
    | (refine wpS_of_wp (wp_ret ?_); cases c₀; simp_all [bodyPostS, results, Tryz.results195, Exit.thenS])
    | (cases c₀; simp_all [bodyPostS, results, Tryz.results195])
theorem says_any {fid : FuncId} {cap : Array Value} {x : Nat} {b : Bool} {w : World} {K : World → Prop} (eg : ∀ args w, (callFunc fid args).run Tryz.prog w = .ok (.enter fid args) w)
    (h : Calls Tryz.prog fid (#[.int .u32 (x : Int)] ++ cap) w fun e w' => e = .returned (.bool b) ∧ K w') : Calls Tryz.prog 182 #[.func (.func fid) #[] cap, .int .u32 (x : Int)] w fun e w' => e = .returned (.bool b) ∧ K w' := by
  have hnil : ∀ V : World, (binOp .neq 166 (.func (.func fid) #[] cap) .nilFunc).run Tryz.prog V = .ok (.bool true) V := fun _ => by kernel_rfl
  have HC := Lib.hid h
  have hcf := eg (#[.int .u32 (x : Int)] ++ cap) w
  clear h
  go_enter_defers Tryz.func182, Tryz.ntmps182
  go_wp2_with (first
    | (refine HC.out.mono ?_
       rintro e u1 ⟨rfl, hk⟩
       have HK := Lib.hid hk
       clear hk))
  refine leaves_cons (f := 195) (args := #[]) (by simp) (by simp [go_sem]) ?_
  refine (says_idle _).mono ?_
  rintro e u' w'' ⟨rfl, rfl, rfl⟩
  simp [Leaves, settle, results, Tryz.results182, go_sem]
  exact HK.out
end Go.Proofs.YtimcdnbfdkpffaaGreat
/- Stage 13: the landed table: Put. -/
namespace Go.Proofs.YtimcdnbfdkpffaaGreat
set_option maxRecDepth 100000
open Go.RowKit Go.Shelf
attribute [local go_sem] Oper.semAt_some
/-- What way tells: a function over two new cells. -/
def wayF (u : World) (A : Option Addr) (n c h : Nat) : Fact := fun v W => ∃ b1 b2, v = .func (.func 177) #[] #[.pointer (some ⟨b1, 0, none⟩), .pointer (some ⟨b2, 0, none⟩)] ∧ u.heap.size ≤ b1 ∧ u.heap.size ≤ b2 ∧ W.heap[b1]? = some (.cells #[.slice A n c] 182 (0, 0)) ∧ W.heap[b2]? = some (.cells #[.int .u64 (h : Int)] 39 (0, 0))
theorem stb_wayF (u : World) (A : Option Addr) (n c h : Nat) : Stb (wayF u A n c h) := fun _ _ _ ⟨b1, b2, e, h1, h2, h3, h4⟩ hb => ⟨b1, b2, e, h1, h2, (hb.block _ (lt_heap h3)).trans h3, (hb.block _ (lt_heap h4)).trans h4⟩
theorem way_fact {u W : World} (A : Option Addr) (n c h : Nat) (hu : Below u.heap.size u W) : Calls Tryz.prog 153 #[.slice A n c, .int .u64 (h : Int)] W fun e w' => ∃ v, e = .returned v ∧ wayF u A n c h v w' ∧ Below W.heap.size W w' ∧ Below u.heap.size u w' := by
  refine (way_any W A n c h).mono ?_
  rintro e w' ⟨rfl, rfl⟩
  have hb : Below W.heap.size W ((W.alloc (.cells #[.slice A n c] 182)).alloc (.cells #[.int .u64 (h : Int)] 39)) := (below_alloc W _).alloc (below_alloc W _).size _
  refine ⟨_, rfl, ⟨W.heap.size, W.heap.size + 1, rfl, hu.size, by have := hu.size; omega, ?_, ?_⟩, hb, hu.trans (hb.mono hu.size)⟩
  · exact blk_old (heap_alloc_new W _) _
  · have := heap_alloc_new (W.alloc (.cells #[.slice A n c] 182)) (.cells #[.int .u64 (h : Int)] 39)
    rwa [World.size_alloc] at this
theorem ownFrom_of {β : Type} {B : Nat} {J : β → World → Prop} (h : ∀ s W W', J s W → Kept (fun k => B ≤ k) W W' → J s W') : OwnFrom B J := fun s W W' _row hs hg hr => h s W W' hs (Kept.grownBy hg fun k e => (hr k e).1)
theorem free_some {s : Tb} {y k : Nat} : s.free y = some k ↔ k < s.n ∧ s.ful (s.st y k) = false ∧ ∀ j, j < k → s.ful (s.st y j) = true := by
  unfold Tb.free
  rw [fstI_some]
  simp
theorem free_none {s : Tb} {y : Nat} : s.free y = none ↔ ∀ j, j < s.n → s.ful (s.st y j) = true := by
  unfold Tb.free
  rw [fstI_none]
  simp
theorem wk_at {s : Tb} {h m z : Nat} {pre : List Nat} (hp : pre ++ [z] <+: s.wk h m) : z = s.st h pre.length ∧ pre.length < m := by
  obtain ⟨h1, h2⟩ := wk_is hp
  rw [List.length_append, List.length_singleton] at h1 h2
  rw [wk_succ] at h1
  have := (List.append_inj' h1 rfl).2
  injection this with this
  exact ⟨this, by omega⟩
theorem wm_le (s : Tb) (h : Nat) : s.wm h ≤ s.n := by
  have := Tb.lim_le s h
  unfold Tb.wm
  split <;> omega
theorem wa_all {s : Tb} {h : Nat} (ha : ∀ j, j < (s.wa h).length → s.ful (s.st h j) = true) : ∀ j, j < s.n → s.ful (s.st h j) = true := by
  unfold Tb.wa at ha
  rw [wk_len] at ha
  have hl := Tb.lim_le s h
  unfold Tb.wm at ha
  split at ha
  · rename_i q
    have := ha (s.lim h) (by omega)
    rw [(Tb.lim_end q).1] at this
    cases this
  · rename_i q
    exact fun j hj => ha j (by omega)
theorem results_ie {fn : Func} {p q : Tmp} (h : fn.results = #[.cell p 3, .cell q 29]) (tmps : Array Value) (w : World) (g k : Nat) (a b : Int) (hp : tmps.getD p undef = .pointer (some ⟨g, 0, none⟩)) (hq : tmps.getD q undef = .pointer (some ⟨k, 0, none⟩)) (hc : w.cell? ⟨g, 0, none⟩ = some (.int .i64 a)) (hd : w.cell? ⟨k, 0, none⟩ = some (.int .i64 b)) : (results fn tmps).run Tryz.prog w = .ok (.tuple #[.int .i64 a, .int .i64 b]) w := by
  have hp' : tmps[p]?.getD undef = .pointer (some ⟨g, 0, none⟩) := by simpa using hp
  have hq' : tmps[q]?.getD undef = .pointer (some ⟨k, 0, none⟩) := by simpa using hq
  have hu := Tryz.underlying3
  have hv := Tryz.underlying29
  simp only [results, h]
  go_simp
theorem results_ib {fn : Func} {p q : Tmp} (h : fn.results = #[.cell p 3, .cell q 4]) (tmps : Array Value) (w : World) (g k : Nat) (a : Int) (b : Bool) (hp : tmps.getD p undef = .pointer (some ⟨g, 0, none⟩)) (hq : tmps.getD q undef = .pointer (some ⟨k, 0, none⟩)) (hc : w.cell? ⟨g, 0, none⟩ = some (.int .i64 a)) (hd : w.cell? ⟨k, 0, none⟩ = some (.bool b)) : (results fn tmps).run Tryz.prog w = .ok (.tuple #[.int .i64 a, .bool b]) w := by
  have hp' : tmps[p]?.getD undef = .pointer (some ⟨g, 0, none⟩) := by simpa using hp
  have hq' : tmps[q]?.getD undef = .pointer (some ⟨k, 0, none⟩) := by simpa using hq
  have hu := Tryz.underlying3
  have hv := Tryz.underlying4
  simp only [results, h]
  go_simp
/-- Two cells of the call's own, one written behind the other. -/
theorem two_set {u : World} {a b : Nat} {x y x' y' : Value} (hne : b ≠ a) (ha : u.cell? ⟨a, 0, none⟩ = some x') (hb : u.cell? ⟨b, 0, none⟩ = some y') : ((u.setCell ⟨a, 0, none⟩ x).setCell ⟨b, 0, none⟩ y).cell? ⟨a, 0, none⟩ = some x ∧ ((u.setCell ⟨a, 0, none⟩ x).setCell ⟨b, 0, none⟩ y).cell? ⟨b, 0, none⟩ = some y := by
  have h1 : (⟨b, 0, none⟩ : Addr) ≠ ⟨a, 0, none⟩ := by intro e; injection e with e; exact hne e
  have h2 : (u.setCell ⟨a, 0, none⟩ x).cell? ⟨b, 0, none⟩ = some y' := by rw [World.cell?_setCell_other _ _ _ _ (Ne.symm h1), hb]
  refine ⟨?_, World.cell?_setCell_same' _ _ _ (by rw [h2]; rfl)⟩
  rw [World.cell?_setCell_other _ _ _ _ h1]
  exact World.cell?_setCell_same' _ _ _ (by rw [ha]; rfl)
theorem two_mid {u : World} {a b : Nat} {x y' : Value} (hne : b ≠ a) (hb : u.cell? ⟨b, 0, none⟩ = some y') (hf : u.frozen? ⟨b, 0, none⟩ = false) : (u.setCell ⟨a, 0, none⟩ x).cell? ⟨b, 0, none⟩ = some y' ∧ (u.setCell ⟨a, 0, none⟩ x).frozen? ⟨b, 0, none⟩ = false := by
  have h1 : (⟨b, 0, none⟩ : Addr) ≠ ⟨a, 0, none⟩ := by intro e; injection e with e; exact hne e
  exact ⟨by rw [World.cell?_setCell_other _ _ _ _ (Ne.symm h1), hb], by rw [World.frozen?_setCell]; exact hf⟩
section
variable {w : World} {p g c : Nat} {e : Int} {s : Tb} {F : Nat → Prop}
theorem tput_un {pa : Option Addr} (hc : ∀ W, Below w.heap.size w W → Calls Tryz.prog 130 #[.pointer pa] W (ret (.bool false) W)) (y x : Nat) : Calls Tryz.prog 101 #[.pointer pa, .agg #[.int .u64 (y : Int), .int .u32 (x : Int)]] w (ret (.tuple #[.int .i64 0, .int .i64 1]) w) := by
  have HC := Lib.hid hc
  clear hc
  have HM0 : Hid (Mem w ((((w.alloc (.cells #[.pointer pa] 127)).alloc (.cells #[.int .u64 (y : Int), .int .u32 (x : Int)] 99)).alloc (.cells #[.int .i64 0] 3)).alloc (.cells #[.int .i64 0] 29)) [(w.heap.size, .cells #[.pointer pa] 127 (0, 0)), (w.heap.size + 1, .cells #[.int .u64 (y : Int), .int .u32 (x : Int)] 99 (0, 0)), (w.heap.size + 2, .cells #[.int .i64 0] 3 (0, 0)), (w.heap.size + 3, .cells #[.int .i64 0] 29 (0, 0))]) := Lib.hid (by
    have h := ((((Mem.nil w).alloc (.cells #[.pointer pa] 127)).alloc (.cells #[.int .u64 (y : Int), .int .u32 (x : Int)] 99)).alloc (.cells #[.int .i64 0] 3)).alloc (.cells #[.int .i64 0] 29)
    simpa using h)
  go_enter Tryz.func101, Tryz.ntmps101
  go_upto_region 1 with fail
  change Code.wp _ _ _ _ ((((w.alloc (.cells #[.pointer pa] 127)).alloc (.cells #[.int .u64 (y : Int), .int .u32 (x : Int)] 99)).alloc (.cells #[.int .i64 0] 3)).alloc (.cells #[.int .i64 0] 29))
  generalize (((w.alloc (.cells #[.pointer pa] 127)).alloc (.cells #[.int .u64 (y : Int), .int .u32 (x : Int)] 99)).alloc (.cells #[.int .i64 0] 3)).alloc (.cells #[.int .i64 0] 29) = u1 at *
  obtain ⟨b2, hb2⟩ : ∃ b, b = w.heap.size := ⟨_, rfl⟩
  obtain ⟨b3, hb3⟩ : ∃ b, b = w.heap.size + 1 := ⟨_, rfl⟩
  obtain ⟨b4, hb4⟩ : ∃ b, b = w.heap.size + 2 := ⟨_, rfl⟩
  obtain ⟨b5, hb5⟩ : ∃ b, b = w.heap.size + 3 := ⟨_, rfl⟩
  have hc4 : b4 = w.heap.size + 1 + 1 := hb4
  have hc5 : b5 = w.heap.size + 1 + 1 + 1 := hb5
  rw [← hb3, ← hb4, ← hb5, ← hb2] at HM0
  rw [← hc5, ← hc4, ← hb3, ← hb2]
  clear hc4 hc5
  have HB4 : Hid (w.heap.size ≤ b4 ∧ w.heap.size ≤ b5 ∧ b5 ≠ b4) := Lib.hid (by omega)
  clear hb2 hb3 hb4 hb5
  have x2 : u1.cell? ⟨b2, 0, none⟩ = some (.pointer pa) := blk_cell (HM0.out.get 0 rfl) 0
  have HMd := Lib.hid (HC.out u1 HM0.out.below)
  go_wp2_with (first
    | (go_at_call 130
       refine HMd.out.mono ?_
       rintro e u2 ⟨rfl, hb⟩
       have HM2 := Lib.hid (HM0.out.step hb)
       have x4 : u2.cell? ⟨b4, 0, none⟩ = some (.int .i64 0) := blk_cell (HM2.out.get 2 rfl) 0
       have x5 : u2.cell? ⟨b5, 0, none⟩ = some (.int .i64 0) := blk_cell (HM2.out.get 3 rfl) 0
       have y4 := blk_free (HM2.out.get 2 rfl) 0
       have y5 := blk_free (HM2.out.get 3 rfl) 0
       have HT := Lib.hid (two_set (x := .int .i64 0) (y := .int .i64 1) HB4.out.2.2 x4 x5)
       obtain ⟨z5, z6⟩ := two_mid (x := .int .i64 0) HB4.out.2.2 x5 y5
       clear hb x2))
  refine bodyPost_ret (results_ie Tryz.results101 _ _ b4 b5 0 1 rfl rfl HT.out.1 HT.out.2) rfl ?_
  exact ⟨rfl, (HM2.out.below.setCell (p := ⟨b4, 0, none⟩) HB4.out.1 _).setCell (p := ⟨b5, 0, none⟩) HB4.out.2.1 _⟩
set_option maxHeartbeats 4000000 in
theorem tput_any (h : PTX w p g c e s F) (hs : s.Ok) (y x : Nat) (hy : y < 18446744073709551616) : Calls Tryz.prog 101 #[.pointer (some ⟨p, 0, none⟩), .agg #[.int .u64 (y : Int), .int .u32 (x : Int)]] w fun r w' => r = .returned (.tuple #[.int .i64 (s.ptI y : Int), .int .i64 (s.ptE y)]) ∧ (∃ e', PTX w' p g c e' (s.pt y x) F) ∧ Kept F w w' := by
  have HX := Lib.hid h
  have HS := Lib.hid hs
  have HY := Lib.hid hy
  clear h hs hy
  have HM0 : Hid (Mem w ((((w.alloc (.cells #[.pointer (some ⟨p, 0, none⟩)] 127)).alloc (.cells #[.int .u64 (y : Int), .int .u32 (x : Int)] 99)).alloc (.cells #[.int .i64 0] 3)).alloc (.cells #[.int .i64 0] 29)) [(w.heap.size, .cells #[.pointer (some ⟨p, 0, none⟩)] 127 (0, 0)), (w.heap.size + 1, .cells #[.int .u64 (y : Int), .int .u32 (x : Int)] 99 (0, 0)), (w.heap.size + 2, .cells #[.int .i64 0] 3 (0, 0)), (w.heap.size + 3, .cells #[.int .i64 0] 29 (0, 0))]) := Lib.hid (by
    have h := ((((Mem.nil w).alloc (.cells #[.pointer (some ⟨p, 0, none⟩)] 127)).alloc (.cells #[.int .u64 (y : Int), .int .u32 (x : Int)] 99)).alloc (.cells #[.int .i64 0] 3)).alloc (.cells #[.int .i64 0] 29)
    simpa using h)
  refine (callsIn_wide (n := 13)).1 ?_
  refine callsIn_of_wp_marks Tryz.func101 rfl trivial ?_ rfl
  refine wpIn_wide.2 ?_
  simp only [Tryz.ntmps101, List.size_toArray, List.length_cons, List.length_nil, Nat.reduceAdd, Nat.reduceSub, Array.replicate_succ, Array.replicate_zero, List.push_toArray, List.append_toArray, List.nil_append, List.cons_append]
  go_upto_region 1 with fail
  change Code.wp _ _ _ _ ((((w.alloc (.cells #[.pointer (some ⟨p, 0, none⟩)] 127)).alloc (.cells #[.int .u64 (y : Int), .int .u32 (x : Int)] 99)).alloc (.cells #[.int .i64 0] 3)).alloc (.cells #[.int .i64 0] 29))
  generalize (((w.alloc (.cells #[.pointer (some ⟨p, 0, none⟩)] 127)).alloc (.cells #[.int .u64 (y : Int), .int .u32 (x : Int)] 99)).alloc (.cells #[.int .i64 0] 3)).alloc (.cells #[.int .i64 0] 29) = u1 at *
  obtain ⟨b2, hb2⟩ : ∃ b, b = w.heap.size := ⟨_, rfl⟩
  obtain ⟨b3, hb3⟩ : ∃ b, b = w.heap.size + 1 := ⟨_, rfl⟩
  obtain ⟨b4, hb4⟩ : ∃ b, b = w.heap.size + 2 := ⟨_, rfl⟩
  obtain ⟨b5, hb5⟩ : ∃ b, b = w.heap.size + 3 := ⟨_, rfl⟩
  have hc4 : b4 = w.heap.size + 1 + 1 := hb4
  have hc5 : b5 = w.heap.size + 1 + 1 + 1 := hb5
  rw [← hb3, ← hb4, ← hb5, ← hb2] at HM0
  rw [← hc5, ← hc4, ← hb3, ← hb2]
  clear hc4 hc5
  have HB4 : Hid (w.heap.size ≤ b4 ∧ w.heap.size ≤ b5 ∧ b5 ≠ b4) := Lib.hid (by omega)
  clear hb2 hb3 hb4 hb5
  have x2 : u1.cell? ⟨b2, 0, none⟩ = some (.pointer (some ⟨p, 0, none⟩)) := blk_cell (HM0.out.get 0 rfl) 0
  have HX1 := Lib.hid (PTY.step HX.out HM0.out.below)
  have HMd := Lib.hid (tmade_yes (blk_cell (PTY.blk HX1.out) 0) (PTY.pos HX1.out).1)
  go_upto_region 3 with (first
    | (go_at_call 130
       refine HMd.out.mono ?_
       rintro e u2 ⟨rfl, hb⟩
       have HM2 := Lib.hid (HM0.out.step hb)
       have HX2 := Lib.hid (PTY.step HX1.out hb)
       clear hb x2))
  clear HX1 HMd HM0
  refine wp_region_grow (C := fun W => Below u2.heap.size u2 W) 7 29 [val (.pointer (some ⟨p, 0, none⟩)), val (.pointer (some ⟨p, 0, none⟩)), val (.pointer (some ⟨p, 0, none⟩)), val (.slice (some ⟨g, 0, none⟩) s.n c), val (.pointer (some ⟨b3, 0, none⟩)), val (.int .u64 (y : Int)), wayF u2 (some ⟨g, 0, none⟩) s.n c y] (by kernel_rfl) rfl (by kernel_rfl) rfl ⟨stb_val _, stb_val _, stb_val _, stb_val _, stb_val _, stb_val _, stb_wayF _ _ _ _ _, trivial⟩ (Below.refl _ _).drew ?_ ?_
  · refine each_cons ?_ ?_
    · intro a W hW hd
      have h2 : a.tmps[2]?.getD undef = .pointer (some ⟨b2, 0, none⟩) := slot_eq (hd 2 (by decide))
      have yl : W.cell? ⟨b2, 0, none⟩ = some (.pointer (some ⟨p, 0, none⟩)) := blk_cell ((HM2.out.step hW).get 0 rfl) 0
      refine grows_value _ hW (?_ : _ = _) rfl
      clear hd
      go_simp
    refine each_cons ?_ ?_
    · intro a W hW hd
      have h11 : a.tmps[11]?.getD undef = .pointer (some ⟨p, 0, none⟩) := slot_eq (hd 11 (by decide))
      refine grows_value _ hW (?_ : _ = _) rfl
      clear hd
      go_simp
    refine each_cons ?_ ?_
    · intro a W hW hd
      have h12 : a.tmps[12]?.getD undef = .pointer (some ⟨p, 0, none⟩) := slot_eq (hd 12 (by decide))
      refine grows_value _ hW (?_ : _ = _) rfl
      clear hd
      go_simp
    refine each_cons ?_ ?_
    · intro a W hW hd
      have h13 : a.tmps[13]?.getD undef = .pointer (some ⟨p, 0, none⟩) := slot_eq (hd 13 (by decide))
      have yl : W.cell? ⟨p, 0, none⟩ = some (.slice (some ⟨g, 0, none⟩) s.n c) := blk_cell (PTY.step HX2.out hW).blk 0
      refine grows_value _ hW (?_ : _ = _) rfl
      clear hd
      go_simp
    refine each_cons ?_ ?_
    · intro a W hW hd
      have h3 : a.tmps[3]?.getD undef = .pointer (some ⟨b3, 0, none⟩) := slot_eq (hd 3 (by decide))
      refine grows_value _ hW (?_ : _ = _) rfl
      clear hd
      go_simp
    refine each_cons ?_ ?_
    · intro a W hW hd
      have h15 : a.tmps[15]?.getD undef = .pointer (some ⟨b3, 0, none⟩) := slot_eq (hd 15 (by decide))
      have yl : W.cell? ⟨b3, 0, none⟩ = some (.int .u64 (y : Int)) := blk_cell ((HM2.out.step hW).get 1 rfl) 0
      refine grows_value _ hW (?_ : _ = _) rfl
      clear hd
      go_simp
    refine each_cons ?_ ?_
    · intro a W hW hd
      have h14 : a.tmps[14]?.getD undef = .slice (some ⟨g, 0, none⟩) s.n c := slot_eq (hd 14 (by decide))
      have h16 : a.tmps[16]?.getD undef = .int .u64 (y : Int) := slot_eq (hd 16 (by decide))
      refine grows_call (fn := 153) (args := #[.slice (some ⟨g, 0, none⟩) s.n c, .int .u64 (y : Int)]) (by clear hd; go_simp) ?_
      exact way_fact _ _ _ _ hW
    exact each_nil
  · refine behind_val rfl ?_
    refine behind_val rfl ?_
    refine behind_val rfl ?_
    refine behind_val rfl ?_
    refine behind_val rfl ?_
    refine behind_val rfl ?_
    refine behind_cons fun v17 => ?_
    refine behind_nil fun v hCv hFv => ?_
    obtain ⟨_, b6, b7, hv17, h6, h7, h66, h77⟩ := hFv
    subst hv17
    simp only [Act.put, List.setIfInBounds_toArray, List.set_cons_succ, List.set_cons_zero, List.drop_succ_cons, List.drop_zero]
    have HM3 := Lib.hid (HM2.out.step hCv)
    have HX3 := Lib.hid (PTY.step HX2.out hCv)
    have HC6 := Lib.hid h66
    have HC7 := Lib.hid h77
    clear h6 h7 h66 h77 hCv HM2 HX2
    go_wp2_with fail
    refine (wpIn_wide (n := 13)).1 ?_
    refine wpIn_rangeFunc_P rfl (by omega) (gf := 177) (lb := #[.pointer (some ⟨b6, 0, none⟩), .pointer (some ⟨b7, 0, none⟩)]) rfl trivial way_eg
      (way_it (R := fun _ => False) HX3.out HS.out y HY.out (b2 := b6) (b3 := b7) (fun _ q => q.elim) (fun q => q) (fun q => q) (fun q => q) (blk_cell HC6.out 0) (blk_cell HC7.out 0)) (Below.refl _ _) (fun _ => rfl) keptC_t keptC_b
      (fun pre W => (∀ j, j < pre.length → s.ful (s.st y j) = true) ∧ Below v.heap.size v W)
      (fun cc _ W => cc = .ret ∧ ∃ k, s.free y = some k ∧ (∃ e', PTX W p g c e' (s.put (s.st y k) y x) F) ∧ W.cell? ⟨b4, 0, none⟩ = some (.int .i64 (s.st y k : Int)) ∧ W.cell? ⟨b5, 0, none⟩ = some (.int .i64 0) ∧ Kept (fun k => F k ∨ k = b4 ∨ k = b5) v W)
      ?hI ?hIx ⟨fun j hj => absurd hj (Nat.not_lt_zero _), Below.refl _ _⟩
      (fun pre z a' W => (∀ j, j < pre.length → s.ful (s.st y j) = true) ∧ Below v.heap.size v W ∧ ∃ Bx, v.heap.size ≤ Bx ∧ W.heap[Bx]? = some (.cells #[.int .u8 (stc s z : Int), .int .u64 (s.eh z : Int), .int .u32 (s.ew z : Int)] 212 (0, 0)) ∧ a' = { tmps := #[.pointer (some ⟨p, 0, none⟩), .agg #[.int .u64 (y : Int), .int .u32 (x : Int)], .pointer (some ⟨b2, 0, none⟩), .pointer (some ⟨b3, 0, none⟩), .pointer (some ⟨b4, 0, none⟩), .pointer (some ⟨b5, 0, none⟩), .int .i64 (z : Int), .pointer (some ⟨Bx, 0, none⟩), .pointer (some ⟨p, 0, none⟩), .bool true, .bool false, .pointer (some ⟨p, 0, none⟩), .pointer (some ⟨p, 0, none⟩), .pointer (some ⟨p, 0, none⟩), .slice (some ⟨g, 0, none⟩) s.n c, .pointer (some ⟨b3, 0, none⟩), .int .u64 (y : Int), .func (.func 177) #[] #[.pointer (some ⟨b6, 0, none⟩), .pointer (some ⟨b7, 0, none⟩)], .int .i64 (z : Int), .agg #[.int .u8 (stc s z : Int), .int .u64 (s.eh z : Int), .int .u32 (s.ew z : Int)], undef, undef, undef, undef, undef, undef, undef, undef, undef], defers := [] })
      ?hAx ?assign ?body ?done ?stop
    case hI =>
      refine ownFrom_of ?_
      rintro pre W W' ⟨h1, h2⟩ hk
      exact ⟨h1, h2.trans (hk.below h2.size fun _ q => q)⟩
    case hIx =>
      intro cc
      refine ownFrom_of ?_
      rintro pre W W' ⟨h0, k, h1, ⟨e', h2⟩, h3, h4, h5⟩ hk
      have l4 := lt_heap (HM3.out.get 2 rfl)
      have l5 := lt_heap (HM3.out.get 3 rfl)
      refine ⟨h0, k, h1, ⟨e', PTY.keep h2 hk fun k hF hr => ?_⟩, (hk.cell (p := ⟨b4, 0, none⟩) (Nat.lt_of_lt_of_le l4 h5.size) (show ¬ v.heap.size ≤ b4 by omega)).trans h3, (hk.cell (p := ⟨b5, 0, none⟩) (Nat.lt_of_lt_of_le l5 h5.size) (show ¬ v.heap.size ≤ b5 by omega)).trans h4, ⟨hk.os.trans h5.os, hk.tape.trans h5.tape, hk.output.trans h5.output, Nat.le_trans h5.size hk.size, fun k hl hn => (hk.block k (Nat.lt_of_lt_of_le hl h5.size) (by omega)).trans (h5.block k hl hn)⟩⟩
      have := PTY.old HX3.out k hF
      omega
    case hAx =>
      rintro pre z a' _ X Y row ⟨h1, h2, Bx, h3, h4, h5⟩ hg hr
      exact ⟨h1, h2.trans ((Kept.grownBy hg fun k e => (hr k e).1).below h2.size fun _ q => q), Bx, h3, (grownBy_keeps_cells hg (fun r e => (hr r e).2) h4 rfl).trans h4, h5⟩
    case assign =>
      rintro l pre z W ⟨hp, hb⟩ hpre
      unfold wEnc
      gi_wp2
      exact ⟨(KeepsOthers.alloc _ _).from _, KeptC.of_below (below_alloc W _) _, hp, hb.alloc hb.size _, W.heap.size, hb.size, heap_alloc_new W _, rfl⟩
    case body =>
      rintro l pre z a' W hpre ⟨hp, hb, Bx, hBx, hX, rfl⟩
      obtain ⟨hz, hlen⟩ := wk_at hpre
      have hwn := wm_le s y
      have hzn : z < s.n := by rw [hz]; exact Tb.st_lt HS.out y _
      have HZ := Lib.hid hz
      have HP := Lib.hid hp
      have HB := Lib.hid hb
      have HLN : Hid (pre.length < s.n) := Lib.hid (by omega)
      have c0 : W.cell? ⟨Bx, 0, none⟩ = some (.int .u8 (stc s z : Int)) := blk_cell hX 0
      cases hf : s.ful z with
      | true =>
        rw [stc_ful hf] at c0
        have c0 : W.cell? ⟨Bx, 0, none⟩ = some (.int .u8 1) := c0
        have HF := Lib.hid hf
        clear hz hlen hwn hzn hp hb hBx hX hf hpre
        gi_wp2
        refine ⟨KeepsFrom.refl _ _, KeptC.refl _ _, fun j hj => ?_, HB.out⟩
        rw [List.length_append, List.length_singleton] at hj
        rcases (show j < pre.length ∨ j = pre.length by omega) with q | rfl
        · exact HP.out j q
        · rw [← HZ.out]
          exact HF.out
      | false =>
        have HMW := Lib.hid (HM3.out.step hb)
        have HXW := Lib.hid (PTY.step HX3.out hb)
        have HFR : Hid (s.free y = some pre.length) := Lib.hid (free_some.2 ⟨by omega, by rw [← hz]; exact hf, hp⟩)
        have hst := stc_not hf
        obtain ⟨a, ha⟩ : ∃ a, a = stc s z := ⟨_, rfl⟩
        rw [← ha] at c0 hst
        have hne : ((a : Int) != 1) = true := by simp; omega
        have x2 : W.cell? ⟨b2, 0, none⟩ = some (.pointer (some ⟨p, 0, none⟩)) := blk_cell (HMW.out.get 0 rfl) 0
        have x3 : W.cell? ⟨b3, 0, none⟩ = some (.int .u64 (y : Int)) := blk_cell (HMW.out.get 1 rfl) 0
        have x31 : W.cell? ⟨b3, 1, none⟩ = some (.int .u32 (x : Int)) := blk_cell (HMW.out.get 1 rfl) 1
        have hbd : ∀ V, (Instr.build 212 #[(0, .int .u8 1), (1, .agg #[.int .u64 (y : Int), .int .u32 (x : Int)])]).run Tryz.prog V = .ok (.agg #[.int .u8 1, .int .u64 (y : Int), .int .u32 (x : Int)]) V := fun V => by kernel_rfl
        have HL := Lib.hid (tlay_put HXW.out hzn hf y x)
        have HFB : Hid (¬ F b4 ∧ ¬ F b5) := Lib.hid ⟨fun q => by have := PTY.old HX.out _ q; have := HB4.out; omega, fun q => by have := PTY.old HX.out _ q; have := HB4.out; omega⟩
        have HVL : Hid (b4 < v.heap.size ∧ b5 < v.heap.size) := Lib.hid ⟨lt_heap (HM3.out.get 2 rfl), lt_heap (HM3.out.get 3 rfl)⟩
        clear hz hlen hwn hzn hp hb hBx hX hf hpre ha hst
        gi_wp2_with (first
          | (refine ⟨trivial, ?_⟩
             gi_at_call 154
             refine (CallsIn.inRound l (callsIn_wide.2 HL.out)).mono ?_
             rintro e u7 ⟨rfl, hx7, hk7⟩
             have HX7 := Lib.hid hx7
             have HK7 := Lib.hid hk7
             have h4 := (hk7.block b4 (lt_heap (HMW.out.get 2 rfl)) HFB.out.1).trans (HMW.out.get 2 rfl)
             have h5 := (hk7.block b5 (lt_heap (HMW.out.get 3 rfl)) HFB.out.2).trans (HMW.out.get 3 rfl)
             have x4 : u7.cell? ⟨b4, 0, none⟩ = some (.int .i64 0) := blk_cell h4 0
             have x5 : u7.cell? ⟨b5, 0, none⟩ = some (.int .i64 0) := blk_cell h5 0
             have y4 := blk_free h4 0
             have y5 := blk_free h5 0
             have HT := Lib.hid (two_set (x := .int .i64 (z : Int)) (y := .int .i64 0) HB4.out.2.2 x4 x5)
             obtain ⟨z5, z6⟩ := two_mid (x := .int .i64 (z : Int)) HB4.out.2.2 x5 y5
             clear hx7 hk7 h4 h5 x2 x3 x31 c0))
        obtain ⟨e', hx7⟩ := HX7.out
        have hk9 : Kept (fun k => k = b4 ∨ k = b5) u7 ((u7.setCell ⟨b4, 0, none⟩ (.int .i64 (z : Int))).setCell ⟨b5, 0, none⟩ (.int .i64 0)) := ((Kept.refl _ u7).setCell (p := ⟨b4, 0, none⟩) (.inl (.inl rfl)) _).setCell (p := ⟨b5, 0, none⟩) (.inl (.inr rfl)) _
        have hkW : Kept (fun k => F k ∨ k = b4 ∨ k = b5) W ((u7.setCell ⟨b4, 0, none⟩ (.int .i64 (z : Int))).setCell ⟨b5, 0, none⟩ (.int .i64 0)) := (HK7.out.mono fun _ _ q => .inl q).trans hk9 fun _ _ q => .inr q
        refine ⟨keepsFrom_of_kept hkW fun k q => ?_, rfl, pre.length, HFR.out, ⟨e', ?_⟩, ?_, HT.out.2, (Kept.of_below HB.out _).trans hkW fun _ _ q => q⟩
        · rcases q with q | rfl | rfl
          · exact PTY.old HX3.out k q
          · exact HVL.out.1
          · exact HVL.out.2
        · rw [← HZ.out]
          refine PTY.keep hx7 hk9 fun k hF hr => ?_
          rcases hr with rfl | rfl
          · exact HFB.out.1 hF
          · exact HFB.out.2 hF
        · rw [← HZ.out]
          exact HT.out.1
    case done =>
      rintro D W hD ⟨hall, hb⟩ hK
      have HFR : Hid (s.free y = none) := Lib.hid (free_none.2 (wa_all hall))
      have HMW := Lib.hid (HM3.out.step hb)
      have HXW := Lib.hid (PTY.step HX3.out hb)
      have HB := Lib.hid hb
      have HK := Lib.hid hK
      have HD : Hid (v.heap.size ≤ D) := Lib.hid hD
      have HVL : Hid (b4 < v.heap.size ∧ b5 < v.heap.size) := Lib.hid ⟨lt_heap (HM3.out.get 2 rfl), lt_heap (HM3.out.get 3 rfl)⟩
      have x4 : W.cell? ⟨b4, 0, none⟩ = some (.int .i64 0) := blk_cell (HMW.out.get 2 rfl) 0
      have x5 : W.cell? ⟨b5, 0, none⟩ = some (.int .i64 0) := blk_cell (HMW.out.get 3 rfl) 0
      have y4 := blk_free (HMW.out.get 2 rfl) 0
      have y5 := blk_free (HMW.out.get 3 rfl) 0
      have HT := Lib.hid (two_set (x := .int .i64 0) (y := .int .i64 9) HB4.out.2.2 x4 x5)
      obtain ⟨z5, z6⟩ := two_mid (x := .int .i64 0) HB4.out.2.2 x5 y5
      clear hall hb hK hD
      go_wp2_with fail
      have hk9 : Kept (fun k => k = b4 ∨ k = b5) W ((W.setCell ⟨b4, 0, none⟩ (.int .i64 0)).setCell ⟨b5, 0, none⟩ (.int .i64 9)) := ((Kept.refl _ W).setCell (p := ⟨b4, 0, none⟩) (.inl (.inl rfl)) _).setCell (p := ⟨b5, 0, none⟩) (.inl (.inr rfl)) _
      have hK9 := (hk9.block D (lt_heap' HK.out) (by have := HD.out; have := HVL.out; omega)).trans HK.out
      have hkD := keptK_b (R := fun k => v.heap.size ≤ k) (w := v) (fun _ h => h) ((W.setCell ⟨b4, 0, none⟩ (.int .i64 0)).setCell ⟨b5, 0, none⟩ (.int .i64 9)) D _ (.deferred none) HD.out hK9 rfl rfl
      have hv9 : b4 < ((W.setCell ⟨b4, 0, none⟩ (.int .i64 0)).setCell ⟨b5, 0, none⟩ (.int .i64 9)).heap.size ∧ b5 < ((W.setCell ⟨b4, 0, none⟩ (.int .i64 0)).setCell ⟨b5, 0, none⟩ (.int .i64 9)).heap.size := by
        have := HVL.out
        have := HB.out.size
        have := hk9.size
        omega
      refine ⟨by simp, .inl ⟨_, _, rfl, run_takeDeferred hK9, ?_⟩⟩
      refine ⟨_, results_ie Tryz.results101 _ _ b4 b5 0 9 rfl rfl ((hkD.cell (p := ⟨b4, 0, none⟩) hv9.1 (by have := HVL.out; show ¬ v.heap.size ≤ b4; omega)).trans HT.out.1) ((hkD.cell (p := ⟨b5, 0, none⟩) hv9.2 (by have := HVL.out; show ¬ v.heap.size ≤ b5; omega)).trans HT.out.2), ?_, ⟨e, ?_⟩, ?_⟩
      · unfold Tb.ptI Tb.ptE
        rw [HFR.out]
        rfl
      · unfold Tb.pt
        rw [HFR.out]
        refine PTY.keep (PTY.keep HXW.out hk9 fun k hF hr => ?_) hkD fun k hF hr => ?_
        · have := PTY.old HX.out k hF
          have := HB4.out
          omega
        · have := PTY.old HX3.out k hF
          omega
      · refine (((Kept.of_below HM3.out.below F).trans (Kept.of_below HB.out F) fun _ _ q => q).trans hk9 fun j hj q => ?_).trans hkD fun j hj q => ?_
        · have := HB4.out
          omega
        · have := HM3.out.below.size
          omega
    case stop =>
      rintro D cc pre W hD hpre ⟨rfl, k, hfr, ⟨e', hx⟩, h4, h5, hk⟩ hK
      have hvl : b4 < v.heap.size ∧ b5 < v.heap.size := ⟨lt_heap (HM3.out.get 2 rfl), lt_heap (HM3.out.get 3 rfl)⟩
      have hkD := keptK_b (R := fun k => v.heap.size ≤ k) (w := v) (fun _ h => h) W D _ (.deferred none) hD hK rfl rfl
      have hs := hk.size
      gi_wp2
      refine ⟨by simp, .inl ⟨_, _, rfl, run_takeDeferred hK, ?_⟩⟩
      refine ⟨_, results_ie Tryz.results101 _ _ b4 b5 (s.st y k : Int) 0 rfl rfl ((hkD.cell (p := ⟨b4, 0, none⟩) (show b4 < _ by omega) (show ¬ v.heap.size ≤ b4 by omega)).trans h4) ((hkD.cell (p := ⟨b5, 0, none⟩) (show b5 < _ by omega) (show ¬ v.heap.size ≤ b5 by omega)).trans h5), ?_, ⟨e', ?_⟩, ?_⟩
      · unfold Tb.ptI Tb.ptE
        rw [hfr]
      · unfold Tb.pt
        rw [hfr]
        refine PTY.keep hx hkD fun k hF hr => ?_
        have := PTY.old HX3.out k hF
        omega
      · refine ((Kept.of_below HM3.out.below F).trans hk fun j hj q => ?_).trans hkD fun j hj q => ?_
        · have := HB4.out
          rcases q with q | q
          · exact q
          · omega
        · have := HM3.out.below.size
          omega
end
end Go.Proofs.YtimcdnbfdkpffaaGreat
