import Derived.Test.YtlchegibfopglaaK14
import Derived.Test.YtlchegibfopglaaK17
import Derived.Test.YtlchegibfopglaaK19
import Derived.Test.YtlchegibfopglaaK20
import Derived.Test.YtlchegibfopglaaK24
import Derived.Test.YtlchegibfopglaaK25
import Derived.Test.YtlchegibfopglaaK28
import Derived.Test.YtlchegibfopglaaK27
import Derived.Test.YtlchegibfopglaaK30
import Derived.Test.YtlchegibfopglaaK31
import Derived.Test.YtlchegibfopglaaK32
import Derived.Test.YtlchegibfopglaaK33
import Derived.Test.YtlchegibfopglaaK34
import Derived.Test.YtlchegibfopglaaK8
/- Bytes of the call's own beside the blocks that a walk made; an append onto a slice that is full turns nothing old. -/
namespace Go.Proofs.Ytlchegibfopglaa
set_option maxRecDepth 100000
open Go.RowKit
/-- The blocks L below B, and bytes of the call's own from B on. -/
structure MO (w W : World) (L : List (Nat × Obj)) (B : Nat) (A : Option Addr) (n c : Nat) (f : Nat → Int) : Prop where
  mem : Mem w W L
  own : Own W B 5 A n c f
  up : ∀ p ∈ L, p.1 < B
  le : B ≤ W.heap.size
  wle : w.heap.size ≤ B
theorem Mem.besides {w W W' : World} {L : List (Nat × Obj)} {B : Nat} (h : Mem w W L) (up : ∀ p ∈ L, p.1 < B) (hw : w.heap.size ≤ B) (hb : Below B W W') : Mem w W' L :=
  ⟨fun p hp => (hb.block _ (up p hp)).trans (h.all p hp), h.lo, h.inc, h.below.trans (hb.mono hw)⟩
theorem Mem.top {w W : World} {L : List (Nat × Obj)} (h : Mem w W L) : ∀ p ∈ L, p.1 < W.heap.size := fun p hp => lt_heap (h.all p hp)
theorem MO.start {w W W' : World} {L : List (Nat × Obj)} {A : Option Addr} {n c : Nat} {f : Nat → Int} (h : Mem w W L) (hb : Below W.heap.size W W') (ho : Own W' W.heap.size 5 A n c f) : MO w W' L W.heap.size A n c f :=
  ⟨h.step hb, ho, h.top, hb.size, h.below.size⟩
theorem MO.step {w W W' : World} {L : List (Nat × Obj)} {B : Nat} {A : Option Addr} {n c : Nat} {f : Nat → Int} (h : MO w W L B A n c f) (hb : Below W.heap.size W W') : MO w W' L B A n c f :=
  ⟨h.mem.step hb, h.own.below hb, h.up, Nat.le_trans h.le hb.size, h.wle⟩
theorem MO.alloc {w W : World} {L : List (Nat × Obj)} {B : Nat} {A : Option Addr} {n c : Nat} {f : Nat → Int} (h : MO w W L B A n c f) (o : Obj) : MO w (W.alloc o) L B A n c f := h.step (below_alloc _ _)
theorem MO.same {w W : World} {L : List (Nat × Obj)} {B : Nat} {A : Option Addr} {n c : Nat} {f g : Nat → Int} (h : MO w W L B A n c f) (hg : ∀ k, k < n → g k = f k) : MO w W L B A n c g := ⟨h.mem, h.own.same hg, h.up, h.le, h.wle⟩
theorem MO.set {w W : World} {L : List (Nat × Obj)} {B g n c : Nat} {f : Nat → Int} (h : MO w W L B (some ⟨g, 0, none⟩) n c f) (hn : 0 < n) (p : Nat) (v : Int) : MO w (W.setCell ⟨g, p, none⟩ (.int .u8 v)) L B (some ⟨g, 0, none⟩) n c (upd f p v) := by
  obtain ⟨g1, hg1, hB, _, _, _⟩ := h.own.lies hn
  injection hg1 with hg1
  injection hg1 with hg1
  subst hg1
  have hb : Below B W (W.setCell ⟨g, p, none⟩ (.int .u8 v)) := (Below.refl _ _).setCell hB _
  exact ⟨h.mem.besides h.up h.wle hb, h.own.set_ p v, h.up, Nat.le_trans h.le hb.size, h.wle⟩
theorem MO.below {w W : World} {L : List (Nat × Obj)} {B : Nat} {A : Option Addr} {n c : Nat} {f : Nat → Int} (h : MO w W L B A n c f) : Below w.heap.size w W := h.mem.below
/-- Where it lies. -/
theorem MO.at_ {w W : World} {L : List (Nat × Obj)} {B : Nat} {A : Option Addr} {n c : Nat} {f : Nat → Int} (h : MO w W L B A n c f) (hn : 0 < n) : ∃ g, A = some ⟨g, 0, none⟩ := by
  obtain ⟨g, hg, _⟩ := h.own.lies hn
  exact ⟨g, hg⟩
theorem MO.cells {w W : World} {L : List (Nat × Obj)} {B g n c : Nat} {f : Nat → Int} (h : MO w W L B (some ⟨g, 0, none⟩) n c f) (k : Nat) (hk : k < n) : W.cell? ⟨g, k, none⟩ = some (.int .u8 (f k)) ∧ W.frozen? ⟨g, k, none⟩ = false := by
  obtain ⟨g1, hg1, _, _, hc, hf⟩ := h.own.lies (by omega)
  injection hg1 with hg1
  injection hg1 with hg1
  subst hg1
  exact ⟨hc k hk, hf k⟩
end Go.Proofs.Ytlchegibfopglaa
/- Layer 7: packets in memory; the document's MayFlags, Turn. -/
namespace Go.Proofs.Ytlchegibfopglaa
set_option maxRecDepth 100000
open Go.RowKit
/-- A packet's cells. -/
def pkc (a b : Nat → Int) (ty : Int) (v6 : Bool) (pr : Int) (s d : Nat → Int) (sp dp fl : Int) (rp : Bool) (I : Value) : Array Value := #[.int .u8 (a 0), .int .u8 (a 1), .int .u8 (a 2), .int .u8 (a 3), .int .u8 (a 4), .int .u8 (a 5), .int .u8 (b 0), .int .u8 (b 1), .int .u8 (b 2), .int .u8 (b 3), .int .u8 (b 4), .int .u8 (b 5), .int .u16 ty, .bool v6, .int .u8 pr, .int .u8 (s 0), .int .u8 (s 1), .int .u8 (s 2), .int .u8 (s 3), .int .u8 (s 4), .int .u8 (s 5), .int .u8 (s 6), .int .u8 (s 7), .int .u8 (s 8), .int .u8 (s 9), .int .u8 (s 10), .int .u8 (s 11), .int .u8 (s 12), .int .u8 (s 13), .int .u8 (s 14), .int .u8 (s 15), .int .u8 (d 0), .int .u8 (d 1), .int .u8 (d 2), .int .u8 (d 3), .int .u8 (d 4), .int .u8 (d 5), .int .u8 (d 6), .int .u8 (d 7), .int .u8 (d 8), .int .u8 (d 9), .int .u8 (d 10), .int .u8 (d 11), .int .u8 (d 12), .int .u8 (d 13), .int .u8 (d 14), .int .u8 (d 15), .int .u16 sp, .int .u16 dp, .int .u8 fl, .bool rp, I]
def pkz : Array Value := pkc (fun _ => 0) (fun _ => 0) 0 false 0 (fun _ => 0) (fun _ => 0) 0 0 0 false (.slice none 0 0)
theorem pk_one (a b : Nat → Int) (ty : Int) (v6 : Bool) (pr : Int) (s d : Nat → Int) (sp dp fl : Int) (rp : Bool) (A : Option Addr) (n c : Nat) : (pkc a b ty v6 pr s d sp dp fl rp (.slice A n c)).all (·.oneCell') = true := by simp [pkc, Value.oneCell']
theorem pkz_one : pkz.all (·.oneCell') = true := pk_one ..
/-- .. of its parts. -/
def pkA (E T : Array Value) (fl : Int) (rp : Bool) (I : Value) : Array Value := E ++ T ++ #[.int .u8 fl, .bool rp, I]
theorem pkA_is (a b : Nat → Int) (ty : Int) (v6 : Bool) (pr : Int) (s d : Nat → Int) (sp dp fl : Int) (rp : Bool) (I : Value) : pkA (eth a b ty) (tupc v6 pr s d sp dp) fl rp I = pkc a b ty v6 pr s d sp dp fl rp I := by kernel_rfl
theorem rmay_any (x : Int) (h : 0 ≤ x ∧ x ≤ 255) (w : World) : Calls Try.prog 10 #[.int .u8 x] w fun e w' => e = .returned (.bool (mayF x)) ∧ w = w' := by
  have t0 : x.tmod 2 = x % 2 := Int.tmod_eq_emod_of_nonneg h.1
  have t1 : x.tdiv 2 = x / 2 := Int.tdiv_eq_ediv_of_nonneg h.1
  have t2 : x.tdiv 4 = x / 4 := Int.tdiv_eq_ediv_of_nonneg h.1
  have t3 : x.tdiv 16 = x / 16 := Int.tdiv_eq_ediv_of_nonneg h.1
  have s1 : (x / 2).tmod 2 = x / 2 % 2 := Int.tmod_eq_emod_of_nonneg (by omega)
  have s2 : (x / 4).tmod 2 = x / 4 % 2 := Int.tmod_eq_emod_of_nonneg (by omega)
  have s3 : (x / 16).tmod 2 = x / 16 % 2 := Int.tmod_eq_emod_of_nonneg (by omega)
  obtain ⟨m, hm⟩ : ∃ m, m = mayF x := ⟨_, rfl⟩
  rw [← hm]
  unfold mayF at hm
  have k1 : decide (x % 2 = 1) = (x % 2 == 1) := by by_cases q : x % 2 = 1 <;> simp [q]
  have k2 : decide (x / 2 % 2 = 1) = (x / 2 % 2 == 1) := by by_cases q : x / 2 % 2 = 1 <;> simp [q]
  have k3 : decide (x / 4 % 2 = 1) = (x / 4 % 2 == 1) := by by_cases q : x / 4 % 2 = 1 <;> simp [q]
  have k4 : decide (x / 16 % 2 = 1) = (x / 16 % 2 == 1) := by by_cases q : x / 16 % 2 = 1 <;> simp [q]
  rw [k1, k2, k3, k4] at hm
  have z1 : IntKind.u8.wrap (x % 2) = x % 2 := by rw [IntKind.wrap_u8']; omega
  have z2 : IntKind.u8.wrap (x / 2 % 2) = x / 2 % 2 := by rw [IntKind.wrap_u8']; omega
  have z3 : IntKind.u8.wrap (x / 4 % 2) = x / 4 % 2 := by rw [IntKind.wrap_u8']; omega
  have z4 : IntKind.u8.wrap (x / 16 % 2) = x / 16 % 2 := by rw [IntKind.wrap_u8']; omega
  have y2 : IntKind.u8.wrap (x / 2) = x / 2 := by rw [IntKind.wrap_u8']; omega
  have y3 : IntKind.u8.wrap (x / 4) = x / 4 := by rw [IntKind.wrap_u8']; omega
  have y4 : IntKind.u8.wrap (x / 16) = x / 16 := by rw [IntKind.wrap_u8']; omega
  clear k1 k2 k3 k4 h
  cases b1 : (x % 2 == 1) <;> cases b2 : (x / 2 % 2 == 1) <;> cases b3 : (x / 4 % 2 == 1) <;> cases b4 : (x / 16 % 2 == 1)
  all_goals
    rw [b1, b2, b3, b4] at hm
    have hm' : m = _ := hm.trans rfl
    clear hm
    subst hm'
    go_enter Try.func10, Try.ntmps10
    go_wp2
    go_ret
    exact ⟨rfl, rfl⟩
set_option maxHeartbeats 1000000 in
theorem rturn_any (v6 : Bool) (pr : Int) (s d : Nat → Int) (sp dp : Int) (w : World) : Calls Try.prog 12 #[.agg (tupc v6 pr s d sp dp)] w fun e w' => e = .returned (.agg (tupc v6 pr d s dp sp)) ∧ Below w.heap.size w w' := by
  have e1 : (w.alloc (.cells (tupc v6 pr s d sp dp) 26)).heap.size = w.heap.size + 1 := by simp
  have HM1 : Hid (Mem w ((w.alloc (.cells (tupc v6 pr s d sp dp) 26)).alloc (.cells tupz 26)) [(w.heap.size, .cells (tupc v6 pr s d sp dp) 26 (0, 0)), (w.heap.size + 1, .cells tupz 26 (0, 0))]) := Lib.hid (((Mem.nil w).alloc (.cells (tupc v6 pr s d sp dp) 26)).new (.cells tupz 26) (w.heap.size + 1) e1.symm)
  clear e1
  go_enter Try.func12, Try.ntmps12
  go_upto_region 1 with fail
  change Code.wp _ _ _ _ ((w.alloc (.cells (tupc v6 pr s d sp dp) 26)).alloc (.cells tupz 26))
  generalize (w.alloc (.cells (tupc v6 pr s d sp dp) 26)).alloc (.cells tupz 26) = u1 at *
  have x0 : u1.cell? ⟨w.heap.size, 0, none⟩ = some (.bool v6) := blk_cell (HM1.out.get 0 rfl) 0
  have x1 : u1.cell? ⟨w.heap.size, 1, none⟩ = some (.int .u8 pr) := blk_cell (HM1.out.get 0 rfl) 1
  have x34 : u1.cell? ⟨w.heap.size, 34, none⟩ = some (.int .u16 sp) := blk_cell (HM1.out.get 0 rfl) 34
  have x35 : u1.cell? ⟨w.heap.size, 35, none⟩ = some (.int .u16 dp) := blk_cell (HM1.out.get 0 rfl) 35
  go_wp2_with (first
    | (refine wpList_load_mid rfl 23 (.tmp 7) rfl w.heap.size 18 rfl (arr16 d).toList _ (blk_range (HM1.out.get 0 rfl) (fun k hk => tup_dsts _ _ _ _ _ _ k hk)) Try.underlying23 rfl (by kernel_rfl) ?_)
    | (refine wpList_load_mid rfl 23 (.tmp 9) rfl w.heap.size 2 rfl (arr16 s).toList _ (blk_range (HM1.out.get 0 rfl) (fun k hk => tup_srcs _ _ _ _ _ _ k hk)) Try.underlying23 rfl (by kernel_rfl) ?_)
    | (refine wpList_tup rfl (.tmp 4) (.tmp 6) (.tmp 8) (.tmp 10) (.tmp 12) (.tmp 14) rfl v6 pr d s dp sp rfl rfl rfl rfl rfl rfl ?_)
    | (refine wpList_store_row rfl 26 (.tmp 2) (.tmp 15) rfl (w.heap.size + 1) (tupc v6 pr d s dp sp) rfl rfl 26 tupz (HM1.out.get 1 rfl) (by kernel_rfl) rfl (tup_one ..) ?_))
  refine bodyPost_ret (v := .agg (tupc v6 pr d s dp sp)) (results_cell_row Try.results12 _ _ (w.heap.size + 1) 26 (tupc v6 pr d s dp sp) (0, 0) _ rfl (setRow_heap _ (w.heap.size + 1) _ _ _ _ (HM1.out.get 1 rfl)) Try.underlying26 rfl (by kernel_rfl)) rfl ⟨rfl, ?_⟩
  exact below_setRow HM1.out.below (by omega) _
end Go.Proofs.Ytlchegibfopglaa
