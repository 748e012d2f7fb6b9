import Derived.Test.YtlchegibfopglaaK37
import Derived.Test.YtlchegibfopglaaK16
import Derived.Test.YtlchegibfopglaaK35
/- Layer 7, the document: Read. -/
namespace Go.Proofs.Ytlchegibfopglaa
set_option maxRecDepth 100000
open Go.RowKit
theorem outer_any (v : Bool) (A : Option Addr) (m c : Nat) (g : Nat → Int) (hg : Byt g) (hm : m ≤ 140737488355) (hcap : m ≤ c) (hc' : c ≤ 9223372036854775807) (w : World) (hr : Rd w w.heap.size A m g) : Calls Try.prog 20 #[.bool v, .slice A m c] w (OtO v g m w) := by
  cases v
  · exact outer_false A m c g hg hm hcap hc' w hr
  · exact outer_true A m c g hg hm hcap hc' w hr
theorem Mem.newrow {w W : World} {L : List (Nat × Obj)} (h : Mem w W L) (zs cs : Array Value) (t : TypeId) (q : Nat) (hq : q = W.heap.size) : Mem w ((W.alloc (.cells zs t)).setRow q cs) (L ++ [(q, .cells cs t (0, 0))]) := by
  have a := (h.new (.cells zs t) q hq).row L.length (g := q) (cs := zs) (t := t) (by simp) cs
  have e : (L ++ [(q, Obj.cells zs t)]).set L.length (q, .cells cs t (0, 0)) = L ++ [(q, .cells cs t (0, 0))] := by simp
  rw [e] at a
  exact a
/-- The blocks of a walk, and two slices of bytes of the call's own. -/
structure PS (w W : World) (L : List (Nat × Obj)) (I : Option Addr) (ni ci : Nat) (gi : Nat → Int) (R : Option Addr) (nr cr : Nat) (gr : Nat → Int) : Prop where
  mem : Mem w W L
  oi : Own W w.heap.size 5 I ni ci gi
  or_ : Own W w.heap.size 5 R nr cr gr
theorem PS.step {w W W' : World} {L : List (Nat × Obj)} {I : Option Addr} {ni ci : Nat} {gi : Nat → Int} {R : Option Addr} {nr cr : Nat} {gr : Nat → Int} (h : PS w W L I ni ci gi R nr cr gr) (hb : Below W.heap.size W W') : PS w W' L I ni ci gi R nr cr gr := ⟨h.mem.step hb, h.oi.below hb, h.or_.below hb⟩
theorem PS.newrow {w W : World} {L : List (Nat × Obj)} {I : Option Addr} {ni ci : Nat} {gi : Nat → Int} {R : Option Addr} {nr cr : Nat} {gr : Nat → Int} (h : PS w W L I ni ci gi R nr cr gr) (zs cs : Array Value) (t : TypeId) (q : Nat) (hq : q = W.heap.size) : PS w ((W.alloc (.cells zs t)).setRow q cs) (L ++ [(q, .cells cs t (0, 0))]) I ni ci gi R nr cr gr := by
  have hb : Below W.heap.size W ((W.alloc (.cells zs t)).setRow q cs) := by rw [hq]; exact below_setRow (below_alloc W _) (Nat.le_refl _) _
  exact ⟨h.mem.newrow zs cs t q hq, h.oi.below hb, h.or_.below hb⟩
theorem PS.cells {w W : World} {L : List (Nat × Obj)} {I : Option Addr} {ni ci : Nat} {gi : Nat → Int} {R : Option Addr} {nr cr : Nat} {gr : Nat → Int} (h : PS w W L I ni ci gi R nr cr gr) (k : Nat) {g : Nat} {cs : Array Value} {t : TypeId} (hk : L[k]? = some (g, .cells cs t (0, 0))) (hte : t ≠ 5) (o : Nat) (vs : List Value) : PS w (W.setCells g o vs) (L.set k (g, .cells (laid cs o vs) t (0, 0))) I ni ci gi R nr cr gr :=
  ⟨h.mem.cells k hk o vs, h.oi.other (h.mem.get k hk) hte (fun j hj => other_setCells hj vs o W), h.or_.other (h.mem.get k hk) hte (fun j hj => other_setCells hj vs o W)⟩
theorem PS.set {w W : World} {L : List (Nat × Obj)} {I : Option Addr} {ni ci : Nat} {gi : Nat → Int} {R : Option Addr} {nr cr : Nat} {gr : Nat → Int} (h : PS w W L I ni ci gi R nr cr gr) (k : Nat) {g : Nat} {cs : Array Value} {t : TypeId} (hk : L[k]? = some (g, .cells cs t (0, 0))) (hte : t ≠ 5) (i : Nat) (v : Value) : PS w (W.setCell ⟨g, i, none⟩ v) (L.set k (g, .cells (cs.setIfInBounds i v) t (0, 0))) I ni ci gi R nr cr gr :=
  ⟨h.mem.set k hk i v, h.oi.other (h.mem.get k hk) hte (fun j hj => Below.heap_setCell W ⟨g, i, none⟩ v j hj), h.or_.other (h.mem.get k hk) hte (fun j hj => Below.heap_setCell W ⟨g, i, none⟩ v j hj)⟩
/-- What Read tells. -/
def PkO (f : Nat → Int) (n : Nat) (w : World) (e : Ending) (w' : World) : Prop :=
  (pkE f n ≠ 0 ∧ e = .returned (.tuple #[.agg pkz, .int .i64 (pkE f n)]) ∧ Below w.heap.size w w') ∨
  (pkE f n = 0 ∧ ∃ I ic, e = .returned (.tuple #[.agg (pkA (eth f (fun k => f (6 + k)) (w2 f 12)) (pkT (pkV f) (otP (pkV f) (pkG f)) (otS (pkV f) (pkG f)) (otD (pkV f) (pkG f)) (otF (pkV f) (pkG f)) (otR (pkV f) (pkG f))) (pkL (otP (pkV f) (pkG f)) (otF (pkV f) (pkG f))) (pkR (otP (pkV f) (pkG f))) (.slice I (otI (pkV f) (pkG f)) ic)), .int .i64 0]) ∧
    Own w' w.heap.size 5 I (otI (pkV f) (pkG f)) ic (pkG f) ∧ Below w.heap.size w w')
theorem pkE_0 {f : Nat → Int} {n : Nat} (h : 1600 < n) : pkE f n = 3 := by unfold pkE; rw [if_pos h]
theorem pkE_1 {f : Nat → Int} {n : Nat} (h0 : ¬ 1600 < n) (h : n < 14) : pkE f n = 4 := by unfold pkE; rw [if_neg h0, if_pos h]
theorem pkE_2 {f : Nat → Int} {n : Nat} (h0 : ¬ 1600 < n) (h1 : ¬ n < 14) (h : ¬ (w2 f 12 = 2048 ∨ w2 f 12 = 34525)) : pkE f n = 10 := by unfold pkE; rw [if_neg h0, if_neg h1, if_pos h]
theorem pkE_3 {f : Nat → Int} {n : Nat} (h0 : ¬ 1600 < n) (h1 : ¬ n < 14) (h2 : w2 f 12 = 2048 ∨ w2 f 12 = 34525) (h : otE (pkV f) (pkG f) (n - 14) ≠ 0) : pkE f n = otE (pkV f) (pkG f) (n - 14) := by unfold pkE; rw [if_neg h0, if_neg h1, if_neg (fun q => q h2), if_pos h]
theorem pkE_4 {f : Nat → Int} {n : Nat} (h0 : ¬ 1600 < n) (h1 : ¬ n < 14) (h2 : w2 f 12 = 2048 ∨ w2 f 12 = 34525) (h : otE (pkV f) (pkG f) (n - 14) = 0) : pkE f n = prE (pkV f) (otP (pkV f) (pkG f)) (otS (pkV f) (pkG f)) (otD (pkV f) (pkG f)) (otF (pkV f) (pkG f)) (otR (pkV f) (pkG f)) := by unfold pkE; rw [if_neg h0, if_neg h1, if_neg (fun q => q h2), if_neg (fun q => q h)]
theorem otS_byt (v : Bool) {g : Nat → Int} (hg : Byt g) : Byt (otS v g) := fun k => by
  have a := hg (8 + k)
  have b := hg (12 + k)
  unfold otS
  cases v
  · rw [if_neg (show ¬ (false = true) by decide)]; unfold adr; split <;> omega
  · rw [if_pos rfl]; unfold fst16; split <;> omega
theorem otD_byt (v : Bool) {g : Nat → Int} (hg : Byt g) : Byt (otD v g) := fun k => by
  have a := hg (24 + k)
  have b := hg (16 + k)
  unfold otD
  cases v
  · rw [if_neg (show ¬ (false = true) by decide)]; unfold adr; split <;> omega
  · rw [if_pos rfl]; unfold fst16; split <;> omega
theorem pk_eth (a b a' b' : Nat → Int) (ty ty' : Int) (v6 : Bool) (p : Int) (s d : Nat → Int) (sp dp fl : Int) (rp : Bool) (I : Value) : laid (pkc a b ty v6 p s d sp dp fl rp I) 0 (eth a' b' ty').toList = pkc a' b' ty' v6 p s d sp dp fl rp I := by kernel_rfl
theorem pk_sport (a b : Nat → Int) (ty : Int) (v6 : Bool) (p : Int) (s d : Nat → Int) (sp dp fl x : Int) (rp : Bool) (I : Value) : (pkc a b ty v6 p s d sp dp fl rp I).setIfInBounds 47 (.int .u16 x) = pkc a b ty v6 p s d x dp fl rp I := by kernel_rfl
theorem pk_dport (a b : Nat → Int) (ty : Int) (v6 : Bool) (p : Int) (s d : Nat → Int) (sp dp fl x : Int) (rp : Bool) (I : Value) : (pkc a b ty v6 p s d sp dp fl rp I).setIfInBounds 48 (.int .u16 x) = pkc a b ty v6 p s d sp x fl rp I := by kernel_rfl
theorem pk_flags (a b : Nat → Int) (ty : Int) (v6 : Bool) (p : Int) (s d : Nat → Int) (sp dp fl x : Int) (rp : Bool) (I : Value) : (pkc a b ty v6 p s d sp dp fl rp I).setIfInBounds 49 (.int .u8 x) = pkc a b ty v6 p s d sp dp x rp I := by kernel_rfl
theorem pk_report (a b : Nat → Int) (ty : Int) (v6 : Bool) (p : Int) (s d : Nat → Int) (sp dp fl : Int) (rp x : Bool) (I : Value) : (pkc a b ty v6 p s d sp dp fl rp I).setIfInBounds 50 (.bool x) = pkc a b ty v6 p s d sp dp fl x I := by kernel_rfl
/-- A flow that lies in a packet, in a report. -/
theorem app_range {W : World} {g : Nat} {t : TypeId} (E T X : Array Value) {o : Nat} (ho : o = E.size) (h : W.heap[g]? = some (.cells (E ++ T ++ X) t (0, 0))) : W.rangeAt g o T.toList := fun j v hv => by
  subst ho
  have hj : j < T.size := by
    rcases Nat.lt_or_ge j T.size with q | q
    · exact q
    · rw [List.getElem?_eq_none (by simpa using q)] at hv; cases hv
  rw [blk_cell h (E.size + j)]
  have e : (E ++ T ++ X)[E.size + j]? = T[j]? := by
    rw [Array.getElem?_append, if_pos (by rw [Array.size_append]; omega), Array.getElem?_append, if_neg (by omega)]
    congr 1
    omega
  rw [e]
  simpa using hv
end Go.Proofs.Ytlchegibfopglaa
/- Layer 7, the program: MayFlags, Turn, what a packet carries (carrier), flow. -/
namespace Go.Proofs.Ytlchegibfopglaa
set_option maxRecDepth 100000
open Go.RowKit
theorem may_all : ∀ n : Fin 256, mayF (n.val : Int) = (if (bits .and .u8 (n.val : Int) 2 != 0) = true then (bits .and .u8 (n.val : Int) 5 == 0) else (bits .and .u8 (n.val : Int) 21 != 0)) := by decide +kernel
theorem may_bits (x : Int) (h : 0 ≤ x ∧ x ≤ 255) : mayF x = (if (bits .and .u8 x 2 != 0) = true then (bits .and .u8 x 5 == 0) else (bits .and .u8 x 21 != 0)) := by
  obtain ⟨n, rfl⟩ := Int.eq_ofNat_of_zero_le h.1
  exact may_all ⟨n, by omega⟩
theorem may_any (x : Int) (h : 0 ≤ x ∧ x ≤ 255) (w : World) : Calls Try.prog 9 #[.int .u8 x] w fun e w' => e = .returned (.bool (mayF x)) ∧ w = w' := by
  obtain ⟨m, hm⟩ : ∃ m, m = mayF x := ⟨_, rfl⟩
  have hb := may_bits x h
  rw [← hm] at hb ⊢
  clear hm h
  obtain ⟨b2, hb2⟩ : ∃ b, b = bits .and .u8 x 2 := ⟨_, rfl⟩
  obtain ⟨b5, hb5⟩ : ∃ b, b = bits .and .u8 x 5 := ⟨_, rfl⟩
  obtain ⟨b21, hb21⟩ : ∃ b, b = bits .and .u8 x 21 := ⟨_, rfl⟩
  rw [← hb2, ← hb5, ← hb21] at hb
  have h2 := hb2.symm
  have h5 := hb5.symm
  have h21 := hb21.symm
  clear hb2 hb5 hb21
  have HB := Lib.hid hb
  clear hb
  cases c : (b2 != 0)
  · go_enter Try.func9, Try.ntmps9
    go_wp2
    go_ret
    refine ⟨?_, rfl⟩
    rw [HB.out, c]
    rfl
  · go_enter Try.func9, Try.ntmps9
    go_wp2
    go_ret
    refine ⟨?_, rfl⟩
    rw [HB.out, c]
    rfl
set_option maxHeartbeats 1000000 in
theorem turn_any (v6 : Bool) (pr : Int) (s d : Nat → Int) (sp dp : Int) (w : World) : Calls Try.prog 11 #[.agg (tupc v6 pr s d sp dp)] w fun e w' => e = .returned (.agg (tupc v6 pr d s dp sp)) ∧ Below w.heap.size w w' := by
  have e1 : (w.alloc (.cells (tupc v6 pr s d sp dp) 26)).heap.size = w.heap.size + 1 := by simp
  have HM1 : Hid (Mem w ((w.alloc (.cells (tupc v6 pr s d sp dp) 26)).alloc (.cells tupz 26)) [(w.heap.size, .cells (tupc v6 pr s d sp dp) 26 (0, 0)), (w.heap.size + 1, .cells tupz 26 (0, 0))]) := Lib.hid (((Mem.nil w).alloc (.cells (tupc v6 pr s d sp dp) 26)).new (.cells tupz 26) (w.heap.size + 1) e1.symm)
  clear e1
  go_enter Try.func11, Try.ntmps11
  go_upto_region 1 with fail
  change Code.wp _ _ _ _ ((w.alloc (.cells (tupc v6 pr s d sp dp) 26)).alloc (.cells tupz 26))
  generalize (w.alloc (.cells (tupc v6 pr s d sp dp) 26)).alloc (.cells tupz 26) = u1 at *
  go_upto_region 2 with (first
    | (refine wpList_load_mid rfl 23 (.tmp 3) rfl w.heap.size 18 rfl (arr16 d).toList _ (blk_range (HM1.out.get 0 rfl) (fun k hk => tup_dsts _ _ _ _ _ _ k hk)) Try.underlying23 rfl (by kernel_rfl) ?_)
    | (refine wpList_load_mid rfl 23 (.tmp 5) rfl w.heap.size 2 rfl (arr16 s).toList _ (blk_range (HM1.out.get 0 rfl) (fun k hk => tup_srcs _ _ _ _ _ _ k hk)) Try.underlying23 rfl (by kernel_rfl) ?_)
    | (refine wpList_store_mid rfl 23 (.tmp 7) (.tmp 4) rfl w.heap.size 2 (arr16 d) rfl rfl (blk_there (HM1.out.get 0 rfl) (by show 2 + 16 ≤ 36; omega)) (by kernel_rfl) (arr16_one ..) ?_
       have HM2 : Hid (Mem w (u1.setCells w.heap.size 2 (arr16 d).toList) [(w.heap.size, .cells (tupc v6 pr d d sp dp) 26 (0, 0)), (w.heap.size + 1, .cells tupz 26 (0, 0))]) := Lib.hid (by
         have h := HM1.out.cells 0 rfl 2 (arr16 d).toList
         rw [tup_src] at h
         exact h)
       clear HM1
       generalize u1.setCells w.heap.size 2 (arr16 d).toList = u2 at *)
    | (refine wpList_store_mid rfl 23 (.tmp 8) (.tmp 6) rfl w.heap.size 18 (arr16 s) rfl rfl (blk_there (HM2.out.get 0 rfl) (by show 18 + 16 ≤ 36; omega)) (by kernel_rfl) (arr16_one ..) ?_
       have HM3 : Hid (Mem w (u2.setCells w.heap.size 18 (arr16 s).toList) [(w.heap.size, .cells (tupc v6 pr d s sp dp) 26 (0, 0)), (w.heap.size + 1, .cells tupz 26 (0, 0))]) := Lib.hid (by
         have h := HM2.out.cells 0 rfl 18 (arr16 s).toList
         rw [tup_dst] at h
         exact h)
       clear HM2
       generalize u2.setCells w.heap.size 18 (arr16 s).toList = u3 at *))
  have x34 : u3.cell? ⟨w.heap.size, 34, none⟩ = some (.int .u16 sp) := blk_cell (HM3.out.get 0 rfl) 34
  have x35 : u3.cell? ⟨w.heap.size, 35, none⟩ = some (.int .u16 dp) := blk_cell (HM3.out.get 0 rfl) 35
  have y34 := blk_free (HM3.out.get 0 rfl) 34
  have y35 := blk_free (HM3.out.get 0 rfl) 35
  have HM4 : Hid (Mem w ((u3.setCell ⟨w.heap.size, 34, none⟩ (.int .u16 dp)).setCell ⟨w.heap.size, 35, none⟩ (.int .u16 sp)) [(w.heap.size, .cells (tupc v6 pr d s dp sp) 26 (0, 0)), (w.heap.size + 1, .cells tupz 26 (0, 0))]) := Lib.hid ((HM3.out.set 0 rfl 34 (.int .u16 dp)).set 0 rfl 35 (.int .u16 sp))
  go_upto_region 3 with fail
  clear x34 x35 y34 y35 HM3
  change Code.wp _ _ _ _ ((u3.setCell ⟨w.heap.size, 34, none⟩ (.int .u16 dp)).setCell ⟨w.heap.size, 35, none⟩ (.int .u16 sp))
  generalize (u3.setCell ⟨w.heap.size, 34, none⟩ (.int .u16 dp)).setCell ⟨w.heap.size, 35, none⟩ (.int .u16 sp) = u4 at *
  go_wp2_with (first
    | (refine wpList_load_row rfl 26 (.tmp 1) rfl w.heap.size rfl 26 (tupc v6 pr d s dp sp) (0, 0) _ (HM4.out.get 0 rfl) Try.underlying26 rfl (by kernel_rfl) ?_)
    | (refine wpList_store_row rfl 26 (.tmp 2) (.tmp 15) rfl (w.heap.size + 1) (tupc v6 pr d s dp sp) rfl rfl 26 tupz (HM4.out.get 1 rfl) (by kernel_rfl) rfl (tup_one ..) ?_))
  refine bodyPost_ret (v := .agg (tupc v6 pr d s dp sp)) (results_cell_row Try.results11 _ _ (w.heap.size + 1) 26 (tupc v6 pr d s dp sp) (0, 0) _ rfl (setRow_heap _ (w.heap.size + 1) _ _ _ _ (HM4.out.get 1 rfl)) Try.underlying26 rfl (by kernel_rfl)) rfl ⟨rfl, ?_⟩
  exact below_setRow HM4.out.below (by omega) _
/-- What a packet carries. -/
def carc (v6 : Bool) (pr : Int) (s d : Nat → Int) (D : Value) (z : Int) : Array Value := #[.bool v6, .int .u8 pr, .int .u8 (s 0), .int .u8 (s 1), .int .u8 (s 2), .int .u8 (s 3), .int .u8 (s 4), .int .u8 (s 5), .int .u8 (s 6), .int .u8 (s 7), .int .u8 (s 8), .int .u8 (s 9), .int .u8 (s 10), .int .u8 (s 11), .int .u8 (s 12), .int .u8 (s 13), .int .u8 (s 14), .int .u8 (s 15), .int .u8 (d 0), .int .u8 (d 1), .int .u8 (d 2), .int .u8 (d 3), .int .u8 (d 4), .int .u8 (d 5), .int .u8 (d 6), .int .u8 (d 7), .int .u8 (d 8), .int .u8 (d 9), .int .u8 (d 10), .int .u8 (d 11), .int .u8 (d 12), .int .u8 (d 13), .int .u8 (d 14), .int .u8 (d 15), D, .int .i64 z]
def carz : Array Value := carc false 0 (fun _ => 0) (fun _ => 0) (.slice none 0 0) 0
theorem car_one (v6 : Bool) (pr : Int) (s d : Nat → Int) (A : Option Addr) (n c : Nat) (z : Int) : (carc v6 pr s d (.slice A n c) z).all (·.oneCell') = true := by simp [carc, Value.oneCell']
theorem car_srcs {v : Bool} {pr : Int} {s d : Nat → Int} {D : Value} {z : Int} (k : Nat) (hk : k < 16) : (carc v pr s d D z)[2 + k]? = some (.int .u8 (s k)) := by
  match k, hk with
  | 0, _ => rfl
  | 1, _ => rfl
  | 2, _ => rfl
  | 3, _ => rfl
  | 4, _ => rfl
  | 5, _ => rfl
  | 6, _ => rfl
  | 7, _ => rfl
  | 8, _ => rfl
  | 9, _ => rfl
  | 10, _ => rfl
  | 11, _ => rfl
  | 12, _ => rfl
  | 13, _ => rfl
  | 14, _ => rfl
  | 15, _ => rfl
  | k + 16, h => exact absurd h (by omega)
theorem car_dsts {v : Bool} {pr : Int} {s d : Nat → Int} {D : Value} {z : Int} (k : Nat) (hk : k < 16) : (carc v pr s d D z)[18 + k]? = some (.int .u8 (d k)) := by
  match k, hk with
  | 0, _ => rfl
  | 1, _ => rfl
  | 2, _ => rfl
  | 3, _ => rfl
  | 4, _ => rfl
  | 5, _ => rfl
  | 6, _ => rfl
  | 7, _ => rfl
  | 8, _ => rfl
  | 9, _ => rfl
  | 10, _ => rfl
  | 11, _ => rfl
  | 12, _ => rfl
  | 13, _ => rfl
  | 14, _ => rfl
  | 15, _ => rfl
  | k + 16, h => exact absurd h (by omega)
set_option maxHeartbeats 1000000 in
theorem flow_any (v6 : Bool) (pr : Int) (s d : Nat → Int) (A : Option Addr) (n c : Nat) (z sp dp : Int) (w : World) : Calls Try.prog 41 #[.agg (carc v6 pr s d (.slice A n c) z), .int .u16 sp, .int .u16 dp] w fun e w' => e = .returned (.agg (tupc v6 pr s d sp dp)) ∧ Below w.heap.size w w' := by
  have e1 : (w.alloc (.cells (carc v6 pr s d (.slice A n c) z) 48)).heap.size = w.heap.size + 1 := by simp
  have HM1 : Hid (Mem w ((w.alloc (.cells (carc v6 pr s d (.slice A n c) z) 48)).alloc (.cells tupz 26)) [(w.heap.size, .cells (carc v6 pr s d (.slice A n c) z) 48 (0, 0)), (w.heap.size + 1, .cells tupz 26 (0, 0))]) := Lib.hid (((Mem.nil w).alloc (.cells (carc v6 pr s d (.slice A n c) z) 48)).new (.cells tupz 26) (w.heap.size + 1) e1.symm)
  clear e1
  go_enter Try.func41, Try.ntmps41
  go_upto_region 1 with fail
  change Code.wp _ _ _ _ ((w.alloc (.cells (carc v6 pr s d (.slice A n c) z) 48)).alloc (.cells tupz 26))
  generalize (w.alloc (.cells (carc v6 pr s d (.slice A n c) z) 48)).alloc (.cells tupz 26) = u1 at *
  have x0 : u1.cell? ⟨w.heap.size, 0, none⟩ = some (.bool v6) := blk_cell (HM1.out.get 0 rfl) 0
  have x1 : u1.cell? ⟨w.heap.size, 1, none⟩ = some (.int .u8 pr) := blk_cell (HM1.out.get 0 rfl) 1
  go_wp2_with (first
    | (refine wpList_load_mid rfl 23 (.tmp 13) rfl w.heap.size 2 rfl (arr16 s).toList _ (blk_range (HM1.out.get 0 rfl) (fun k hk => car_srcs k hk)) Try.underlying23 rfl (by kernel_rfl) ?_)
    | (refine wpList_load_mid rfl 23 (.tmp 15) rfl w.heap.size 18 rfl (arr16 d).toList _ (blk_range (HM1.out.get 0 rfl) (fun k hk => car_dsts k hk)) Try.underlying23 rfl (by kernel_rfl) ?_)
    | (refine wpList_tup rfl (.tmp 9) (.tmp 12) (.tmp 14) (.tmp 16) (.tmp 17) (.tmp 18) rfl v6 pr s d sp dp rfl rfl rfl rfl rfl rfl ?_)
    | (refine wpList_store_row rfl 26 (.tmp 6) (.tmp 19) rfl (w.heap.size + 1) (tupc v6 pr s d sp dp) rfl rfl 26 tupz (HM1.out.get 1 rfl) (by kernel_rfl) rfl (tup_one ..) ?_))
  refine bodyPost_ret (v := .agg (tupc v6 pr s d sp dp)) (results_cell_row Try.results41 _ _ (w.heap.size + 1) 26 (tupc v6 pr s d sp dp) (0, 0) _ rfl (setRow_heap _ (w.heap.size + 1) _ _ _ _ (HM1.out.get 1 rfl)) Try.underlying26 rfl (by kernel_rfl)) rfl ⟨rfl, ?_⟩
  exact below_setRow HM1.out.below (by omega) _
end Go.Proofs.Ytlchegibfopglaa
