import Derived.Test.YthjghofjdcepmaaGm9
import Derived.Test.YthjghofjdcepmaaGm22
import Derived.Test.YthjghofjdcepmaaGm23
import Derived.Test.YthjghofjdcepmaaGm24
import Derived.Test.YthjghofjdcepmaaGm21
import Derived.WalkMore
/- Stage 14: what is asked of the program's growing table; the law's has. -/
namespace Go.Proofs.Ythjghofjdcepmaa
set_option maxRecDepth 100000
open Go.RowKit Go.Shelf
namespace Gr
/-- What Find tells: of the table of now, then of the next one. -/
def gn (s : Gr) (h : Nat) (ans : Nat → Bool) : Option Nat := match s.now.fn h ans with
  | some k => some (s.now.ew k)
  | none => if s.mv then (s.next.fn h ans).map s.next.ew else none
def gnV (s : Gr) (h : Nat) (ans : Nat → Bool) : Array Value := match s.gn h ans with
  | none => #[.int .u32 0, .bool false]
  | some x => #[.int .u32 (x : Int), .bool true]
theorem gn_has (s : Gr) (h x : Nat) : s.gn h (fun y => y == x) = if s.has h x then some x else none := by
  unfold gn has
  rw [Tb.fn_find]
  cases e : s.now.find h x with
  | some k =>
    rw [show ((some k : Option Nat).isSome || (s.mv && (s.next.find h x).isSome)) = true from rfl, if_pos rfl]
    show some (s.now.ew k) = some x
    rw [(Tb.find_ful e).2.2]
  | none =>
    show (if s.mv then (s.next.fn h (fun y => y == x)).map s.next.ew else none) = if (false || (s.mv && (s.next.find h x).isSome)) = true then some x else none
    rw [Tb.fn_find, Bool.false_or]
    cases s.mv with
    | false => rfl
    | true =>
      cases e2 : s.next.find h x with
      | none => rfl
      | some k =>
        show some (s.next.ew k) = some x
        rw [(Tb.find_ful e2).2.2]
end Gr
def growI (n : Int) : Bool := decide (16 ≤ n) && mayI n
/-- An entry, as All hands it on. -/
def gEnc (x : Nat × Nat) : Array Value := #[.agg #[.int .u64 (x.1 : Int), .int .u32 (x.2 : Int)]]
/-- A function that tells l, one by one, as far as it is asked, as long as its cells are kept; what a round turns is older than it. -/
def ItC {α : Type} (enc : α → Array Value) (g : Nat) (lb : Array Value) (l : List α) (Fi : Nat → Prop) (w : World) : Prop := ∀ R : Nat → Prop, (∀ k, Fi k → ¬ R k) → (∀ k, R k → k < w.heap.size) → SeqQ Fence.wide 12 Try.prog g lb enc (KeptC R) l w
/-- What the laws ask of the program's growing table: PG w p s F: at p stands what is s, in the blocks of F; g tells what All tells. -/
structure GroP (PG : World → Nat → Gr → (Nat → Prop) → Prop) (g : Nat) : Prop where
  foot : FootG PG
  eg : ∀ args w, (callFunc g args).run Try.prog w = .ok (.enter g args) w
  new_no : ∀ (n : Int) (w : World), growI n = false → Calls Try.prog 7 #[.int .i64 n] w (ret (.tuple #[.pointer none, .int .i64 2]) w)
  new : ∀ (n : Nat) (w : World), growI (n : Int) = true → Calls Try.prog 7 #[.int .i64 (n : Int)] w fun e w' => ∃ p F, e = .returned (.tuple #[.pointer (some ⟨p, 0, none⟩), .int .i64 0]) ∧ PG w' p (Gr.new n) F ∧ (∀ k, F k → w.heap.size ≤ k) ∧ Below w.heap.size w w'
  put : ∀ {w : World} {p : Nat} {s : Gr} {F : Nat → Prop}, PG w p s F → s.Ok → ∀ h x : Nat, h < 18446744073709551616 → x < 4294967296 → Calls Try.prog 10 #[.pointer (some ⟨p, 0, none⟩), .agg #[.int .u64 (h : Int), .int .u32 (x : Int)]] w fun e w' => e = .returned (.int .i64 (s.ptE h)) ∧ ∃ F', PG w' p (s.pt h x) F' ∧ ExtG F F' w w'
  drop : ∀ {w : World} {p : Nat} {s : Gr} {F : Nat → Prop}, PG w p s F → s.Ok → ∀ h x : Nat, h < 18446744073709551616 → x < 4294967296 → Calls Try.prog 12 #[.pointer (some ⟨p, 0, none⟩), .agg #[.int .u64 (h : Int), .int .u32 (x : Int)]] w fun e w' => e = .returned (.int .i64 (s.drE h x)) ∧ ∃ F', PG w' p (s.dr h x) F' ∧ ExtG F F' w w'
  step : ∀ {w : World} {p : Nat} {s : Gr} {F : Nat → Prop}, PG w p s F → s.Ok → Calls Try.prog 14 #[.pointer (some ⟨p, 0, none⟩)] w fun e w' => e = .returned (.bool s.st.mv) ∧ ∃ F', PG w' p s.st F' ∧ ExtG F F' w w'
  find : ∀ {w : World} {p : Nat} {s : Gr} {F : Nat → Prop}, PG w p s F → s.Ok → ∀ h : Nat, h < 18446744073709551616 → ∀ (fid : FuncId) (cap : Array Value) (ans : Nat → Bool) (J : World → Prop), (∀ T, AsksG fid cap ans (fun _ => False) w.heap.size T (fun _ => J)) → J w →
    Calls Try.prog 54 #[.pointer (some ⟨p, 0, none⟩), .int .u64 (h : Int), .func (.func fid) #[] cap] w fun e w' => e = .returned (.tuple (s.gnV h ans)) ∧ J w' ∧ Kept (fun _ => False) w w'
  left : ∀ {w : World} {p : Nat} {s : Gr} {F : Nat → Prop}, PG w p s F → s.Ok → Calls Try.prog 22 #[.pointer (some ⟨p, 0, none⟩)] w (ret (.int .i64 (s.left : Int)) w)
  places : ∀ {w : World} {p : Nat} {s : Gr} {F : Nat → Prop}, PG w p s F → s.Ok → Calls Try.prog 19 #[.pointer (some ⟨p, 0, none⟩)] w (ret (.tuple #[.int .i64 (s.now.n : Int), .int .i64 (s.places : Int)]) w)
  entries : ∀ {w : World} {p : Nat} {s : Gr} {F : Nat → Prop}, PG w p s F → s.Ok → Calls Try.prog 21 #[.pointer (some ⟨p, 0, none⟩)] w (ret (.int .i64 (s.entries : Int)) w)
  marks : ∀ {w : World} {p : Nat} {s : Gr} {F : Nat → Prop}, PG w p s F → s.Ok → Calls Try.prog 23 #[.pointer (some ⟨p, 0, none⟩)] w (ret (.int .i64 (s.marks : Int)) w)
  copy : ∀ {w : World} {p : Nat} {s : Gr} {F : Nat → Prop}, PG w p s F → s.Ok → Calls Try.prog 16 #[.pointer (some ⟨p, 0, none⟩)] w fun e w' => ∃ b F', e = .returned (.pointer (some ⟨b, 0, none⟩)) ∧ PG w' b s F' ∧ (∀ k, F' k → w.heap.size ≤ k) ∧ Below w.heap.size w w'
  all : ∀ {w : World} {p : Nat} {s : Gr} {F : Nat → Prop}, PG w p s F → s.Ok → Calls Try.prog 24 #[.pointer (some ⟨p, 0, none⟩)] w fun e w' => ∃ lb Fi, e = .returned (.func (.func g) #[] lb) ∧ Below w.heap.size w w' ∧ (∀ k, Fi k → k < w'.heap.size ∧ (F k ∨ w.heap.size ≤ k)) ∧ ItC gEnc g lb s.all Fi w'
section
variable {PG : World → Nat → Gr → (Nat → Prop) → Prop} {g : Nat}
theorem has_asks (b H X : Nat) (t : TypeId) (b0 : Nat) (T : List Nat) (hb : b < b0) : AsksG 55 #[.pointer (some ⟨b, 0, none⟩)] (fun y => y == X) (fun _ => False) b0 T (fun _ W => W.heap[b]? = some (.cells #[.int .u64 (H : Int), .int .u32 (X : Int)] t (0, 0))) := by
  refine ⟨fun _ _ => rfl, fun _ W W' h hk => (hk.block b (lt_heap h) (by omega)).trans h, fun l x W h hx _ _ => ?_⟩
  have x1 : W.cell? ⟨b, 1, none⟩ = some (.int .u32 (X : Int)) := blk_cell h 1
  have HH := Lib.hid h
  by_cases e : x = X
  · have e1 : ((x : Int) == (X : Int)) = true := by rw [beq_iff_eq]; omega
    have e2 : Hid ((x == X) = true) := Lib.hid (by simpa using e)
    clear h e
    show Calls Try.prog 55 #[.int .u32 (x : Int), .pointer (some ⟨b, 0, none⟩)] W _
    go_enter Try.func55, Try.ntmps55
    go_wp2_with fail
    go_ret
    exact ⟨by rw [e2.out]; rfl, HH.out, Kept.refl _ _⟩
  · have e1 : ((x : Int) == (X : Int)) = false := by rw [beq_eq_false_iff_ne]; omega
    have e2 : Hid ((x == X) = false) := Lib.hid (by simpa using e)
    clear h e
    show Calls Try.prog 55 #[.int .u32 (x : Int), .pointer (some ⟨b, 0, none⟩)] W _
    go_enter Try.func55, Try.ntmps55
    go_wp2_with fail
    go_ret
    exact ⟨by rw [e2.out]; rfl, HH.out, Kept.refl _ _⟩
set_option maxHeartbeats 1000000 in
theorem has_any (HP : GroP PG g) {w : World} {p : Nat} {s : Gr} {F : Nat → Prop} (h : PG w p s F) (hs : s.Ok) (H X : Nat) (hH : H < 18446744073709551616) : Calls Try.prog 20 #[.pointer (some ⟨p, 0, none⟩), .agg #[.int .u64 (H : Int), .int .u32 (X : Int)]] w (ret (.bool (s.has H X)) w) := by
  have h1 : Hid (Calls Try.prog 54 #[.pointer (some ⟨p, 0, none⟩), .int .u64 (H : Int), .func (.func 55) #[] #[.pointer (some ⟨w.heap.size, 0, none⟩)]] (w.alloc (.cells #[.int .u64 (H : Int), .int .u32 (X : Int)] 34)) fun e w' => e = .returned (.tuple (s.gnV H (fun y => y == X))) ∧ w'.heap[w.heap.size]? = some (.cells #[.int .u64 (H : Int), .int .u32 (X : Int)] 34 (0, 0)) ∧ Kept (fun _ => False) (w.alloc (.cells #[.int .u64 (H : Int), .int .u32 (X : Int)] 34)) w') := Lib.hid (by
    have h2 := HP.foot.keep h (Kept.of_below (below_alloc w (.cells #[.int .u64 (H : Int), .int .u32 (X : Int)] 34)) fun _ => False) fun _ _ q => q
    exact HP.find h2 hs H hH _ _ _ _ (fun T => has_asks w.heap.size H X 34 (w.alloc (.cells #[.int .u64 (H : Int), .int .u32 (X : Int)] 34)).heap.size T (by simp)) (heap_alloc_new w _))
  have HB0 : Hid (Below w.heap.size w (w.alloc (.cells #[.int .u64 (H : Int), .int .u32 (X : Int)] 34))) := Lib.hid (below_alloc w _)
  have HE0 : Hid ((w.alloc (.cells #[.int .u64 (H : Int), .int .u32 (X : Int)] 34)).heap[w.heap.size]? = some (.cells #[.int .u64 (H : Int), .int .u32 (X : Int)] 34 (0, 0))) := Lib.hid (heap_alloc_new w _)
  have hV : s.gnV H (fun y => y == X) = if s.has H X then #[.int .u32 (X : Int), .bool true] else #[.int .u32 0, .bool false] := by
    unfold Gr.gnV
    rw [Gr.gn_has]
    split <;> rename_i e
    · split at e
      · cases e
      · rename_i q
        rw [if_neg q]
    · split at e
      · rename_i q
        injection e with e
        rw [if_pos q, e]
      · cases e
  obtain ⟨r, hr⟩ : ∃ r, r = w.heap.size := ⟨_, rfl⟩
  obtain ⟨R, hR⟩ : ∃ R, R = s.has H X := ⟨_, rfl⟩
  rw [← hr] at HE0 h1
  rw [hV, ← hR] at h1
  rw [← hR]
  clear hV hR h HP hs
  cases R with
  | true =>
    rw [if_pos rfl] at h1
    go_enter Try.func20, Try.ntmps20
    go_upto_region 1 with fail
    change Code.wp _ _ _ _ (w.alloc (.cells #[.int .u64 (H : Int), .int .u32 (X : Int)] 34))
    rw [← hr]
    clear hr
    generalize w.alloc (.cells #[.int .u64 (H : Int), .int .u32 (X : Int)] 34) = u0 at *
    have x0 : u0.cell? ⟨r, 0, none⟩ = some (.int .u64 (H : Int)) := blk_cell HE0.out 0
    go_upto_region 2 with (first
      | (go_at_call 54
         refine h1.out.mono ?_
         rintro e u1 ⟨rfl, hbx, hk⟩
         have HB1 := Lib.hid (HB0.out.trans ((hk.below (Nat.le_refl _) fun _ e => e.elim).mono HB0.out.size))
         have x1 : u1.cell? ⟨r, 1, none⟩ = some (.int .u32 (X : Int)) := blk_cell hbx 1
         clear hk hbx x0))
    go_wp2_with fail
    go_ret
    exact ⟨rfl, HB1.out⟩
  | false =>
    rw [if_neg Bool.false_ne_true] at h1
    go_enter Try.func20, Try.ntmps20
    go_upto_region 1 with fail
    change Code.wp _ _ _ _ (w.alloc (.cells #[.int .u64 (H : Int), .int .u32 (X : Int)] 34))
    rw [← hr]
    clear hr
    generalize w.alloc (.cells #[.int .u64 (H : Int), .int .u32 (X : Int)] 34) = u0 at *
    have x0 : u0.cell? ⟨r, 0, none⟩ = some (.int .u64 (H : Int)) := blk_cell HE0.out 0
    go_upto_region 2 with (first
      | (go_at_call 54
         refine h1.out.mono ?_
         rintro e u1 ⟨rfl, hbx, hk⟩
         have HB1 := Lib.hid (HB0.out.trans ((hk.below (Nat.le_refl _) fun _ e => e.elim).mono HB0.out.size))
         have x1 : u1.cell? ⟨r, 1, none⟩ = some (.int .u32 (X : Int)) := blk_cell hbx 1
         clear hk hbx x0))
    go_wp2_with fail
    go_ret
    exact ⟨rfl, HB1.out⟩
end
end Go.Proofs.Ythjghofjdcepmaa
/- Stage 14: the landed growing table: seek, Find, Drop. -/
namespace Go.Proofs.Ythjghofjdcepmaa
set_option maxRecDepth 100000
open Go.RowKit Go.Shelf
theorem gseek_1 {w : World} {pa a b : Option Addr} {h k : Int} {f : Value} {K : World → Prop} (hc : Calls Try.prog 53 #[.pointer pa] w (ret (.agg #[.pointer a, .pointer b]) w))
    (ha : ∀ W, Below w.heap.size w W → Calls Try.prog 66 #[.pointer a, .int .u64 h, f] W fun e w' => e = .returned (.tuple #[.int .i64 k, .bool true]) ∧ K w') :
    Calls Try.prog 39 #[.pointer pa, .int .u64 h, f] w fun e w' => e = .returned (.tuple #[.pointer a, .int .i64 k, .bool true]) ∧ K w' := by
  have HC := Lib.hid hc
  have HA := Lib.hid ha
  clear hc ha
  go_enter Try.func39, Try.ntmps39
  have i0 : ∀ W : World, (Instr.index 81 (.agg #[.pointer a, .pointer b]) (.int .i64 0)).run Try.prog W = .ok (.pointer a) W := fun _ => by kernel_rfl
  have i1 : ∀ W : World, (Instr.index 81 (.agg #[.pointer a, .pointer b]) (.int .i64 1)).run Try.prog W = .ok (.pointer b) W := fun _ => by kernel_rfl
  go_wp2
  go_step3
  go_wp2
  go_step3
  go_wp2_with (first
    | (go_at_call 53
       refine HC.out.mono ?_
       rintro e u1 ⟨rfl, hb⟩
       have HB1 := Lib.hid hb
       clear hb))

  refine wp_loop_rounds 3 ?_
  rw [rounds_succ]
  go_wp2_with (first
    | (go_at_call 66
       refine (HA.out u1 HB1.out).mono ?_
       rintro e u2 ⟨rfl, hk⟩
       have HK := Lib.hid hk
       clear hk))
  rw [Exit.noGoto_ret]
  refine bodyPost_ret (results_tmp3 rfl _ _ _) rfl ?_
  exact ⟨rfl, HK.out⟩
theorem gseek_2 {w : World} {pa a b : Option Addr} {h k0 k : Int} {r : Bool} {f : Value} {M K : World → Prop} (hc : Calls Try.prog 53 #[.pointer pa] w (ret (.agg #[.pointer a, .pointer b]) w))
    (ha : ∀ W, Below w.heap.size w W → Calls Try.prog 66 #[.pointer a, .int .u64 h, f] W fun e w' => e = .returned (.tuple #[.int .i64 k0, .bool false]) ∧ M w')
    (hb : ∀ W, M W → Calls Try.prog 66 #[.pointer b, .int .u64 h, f] W fun e w' => e = .returned (.tuple #[.int .i64 k, .bool r]) ∧ K w') :
    Calls Try.prog 39 #[.pointer pa, .int .u64 h, f] w fun e w' => e = .returned (.tuple #[.pointer b, .int .i64 k, .bool r]) ∧ K w' := by
  have HC := Lib.hid hc
  have HA := Lib.hid ha
  have HBB := Lib.hid hb
  clear hc ha hb
  go_enter Try.func39, Try.ntmps39
  have i0 : ∀ W : World, (Instr.index 81 (.agg #[.pointer a, .pointer b]) (.int .i64 0)).run Try.prog W = .ok (.pointer a) W := fun _ => by kernel_rfl
  have i1 : ∀ W : World, (Instr.index 81 (.agg #[.pointer a, .pointer b]) (.int .i64 1)).run Try.prog W = .ok (.pointer b) W := fun _ => by kernel_rfl
  go_wp2
  go_step3
  go_wp2
  go_step3
  go_wp2_with (first
    | (go_at_call 53
       refine HC.out.mono ?_
       rintro e u1 ⟨rfl, hb⟩
       have HB1 := Lib.hid hb
       clear hb))

  refine wp_loop_rounds 3 ?_
  rw [rounds_succ]
  go_wp2_with (first
    | (go_at_call 66
       refine (HA.out u1 HB1.out).mono ?_
       rintro e u2 ⟨rfl, hk⟩
       have HK := Lib.hid hk
       clear hk))
  rw [rounds_succ]
  cases r with
  | true =>
    go_wp2_with (first
      | (go_at_call 66
         refine (HBB.out u2 HK.out).mono ?_
         rintro e u3 ⟨rfl, hk⟩
         have HK3 := Lib.hid hk
         clear hk))
    rw [Exit.noGoto_ret]
    refine bodyPost_ret (results_tmp3 rfl _ _ _) rfl ?_
    exact ⟨rfl, HK3.out⟩
  | false =>
    go_wp2_with (first
      | (go_at_call 66
         refine (HBB.out u2 HK.out).mono ?_
         rintro e u3 ⟨rfl, hk⟩
         have HK3 := Lib.hid hk
         clear hk))
    rw [rounds_succ]
    go_wp2
    rw [Exit.noGoto_ret]
    refine bodyPost_ret (results_tmp3 rfl _ _ _) rfl ?_
    exact ⟨rfl, HK3.out⟩
theorem gfind_walk {w : World} {pa q : Option Addr} {fid : FuncId} {cap : Array Value} {H k : Int} {z : Nat} {r : Bool} {K : World → Prop}
    (hsk : Calls Try.prog 39 #[.pointer pa, .int .u64 H, .func (.func 70) #[] #[.pointer (some ⟨w.heap.size + 1, 0, none⟩), .pointer (some ⟨w.heap.size, 0, none⟩)]] ((w.alloc (.cells #[.func (.func fid) #[] cap] 72)).alloc (.cells #[.int .u32 0] 32)) fun e w' => e = .returned (.tuple #[.pointer q, .int .i64 k, .bool r]) ∧ (r = true → w'.heap[w.heap.size + 1]? = some (.cells #[.int .u32 (z : Int)] 32 (0, 0))) ∧ K w') :
    Calls Try.prog 54 #[.pointer pa, .int .u64 H, .func (.func fid) #[] cap] w fun e w' => e = .returned (.tuple (if r then #[.int .u32 (z : Int), .bool true] else #[.int .u32 0, .bool false])) ∧ K w' := by
  have HSK := Lib.hid hsk
  clear hsk
  have hnil : ∀ W : World, (binOp .eql 72 (.func (.func fid) #[] cap) .nilFunc).run Try.prog W = .ok (.bool false) W := fun _ => by kernel_rfl
  have hld : (w.alloc (.cells #[.func (.func fid) #[] cap] 72)).cell? ⟨w.heap.size, 0, none⟩ = some (.func (.func fid) #[] cap) := blk_cell (heap_alloc_new w _) 0
  have hz : (w.alloc (.cells #[.func (.func fid) #[] cap] 72)).heap.size = w.heap.size + 1 := by simp
  go_enter Try.func54, Try.ntmps54
  cases r with
  | true =>
    go_wp2_with (first
      | (go_at_call 39
         refine HSK.out.mono ?_
         rintro e u ⟨rfl, hc, hk⟩
         have x8 : u.cell? ⟨w.heap.size + 1, 0, none⟩ = some (.int .u32 (z : Int)) := blk_cell (hc rfl) 0
         have HK := Lib.hid hk
         clear hk hc hnil hld))
    go_ret2
    exact ⟨rfl, HK.out⟩
  | false =>
    go_wp2_with (first
      | (go_at_call 39
         refine HSK.out.mono ?_
         rintro e u ⟨rfl, hc, hk⟩
         have HK := Lib.hid hk
         clear hk hc hnil hld))
    go_ret2
    exact ⟨rfl, HK.out⟩
theorem askL_last {ans : Nat → Bool} {f : Nat → Nat} {k : Nat} : ∀ {l : List Nat}, l.find? (fun x => ans (f x)) = some k → (askL ans (l.map f)).getLast? = some (f k)
  | [], h => by cases h
  | x :: r, h => by
    show (if ans (f x) then [f x] else f x :: askL ans (r.map f)).getLast? = _
    rw [List.find?_cons] at h
    cases e : ans (f x) with
    | true =>
      rw [e] at h
      injection h with h
      rw [if_pos rfl, h]
      rfl
    | false =>
      rw [e] at h
      rw [if_neg Bool.false_ne_true, List.getLast?_cons, askL_last h]
      rfl
theorem fnL_last {s : Tb} {h k : Nat} {ans : Nat → Bool} (e : s.fn h ans = some k) : (s.fnL h ans).getLast? = some (s.ew k) := askL_last e
/-- What the asking function keeps: the function that came in, and the number that was asked last. -/
structure AskJ (J : World → Prop) (f : Value) (b5 b8 : Nat) (l : List Nat) (W : World) : Prop where
  in_ : J W
  fn : W.heap[b5]? = some (.cells #[f] 72 (0, 0))
  last : ∃ z : Nat, W.heap[b8]? = some (.cells #[.int .u32 (z : Int)] 32 (0, 0)) ∧ ∀ y, l.getLast? = some y → z = y
theorem AskJ.anew {J : World → Prop} {f : Value} {b5 b8 : Nat} {l : List Nat} {W : World} (h : AskJ J f b5 b8 l W) : AskJ J f b5 b8 [] W := by
  obtain ⟨z, hz, _⟩ := h.last
  exact ⟨h.in_, h.fn, z, hz, fun y e => (by cases e)⟩
theorem ask_ok {fid : FuncId} {cap : Array Value} {ans : Nat → Bool} {B B' b5 b8 : Nat} {J : World → Prop} (HA : ∀ T, AsksG fid cap ans (fun _ => False) B T (fun _ => J)) (hB : B ≤ B') (h5 : b5 < B') (h8 : b8 < B') (h58 : b5 ≠ b8) (hB8 : B ≤ b8) (T : List Nat) :
    AsksG 70 #[.pointer (some ⟨b8, 0, none⟩), .pointer (some ⟨b5, 0, none⟩)] ans (fun k => k = b8) B' T (AskJ J (.func (.func fid) #[] cap) b5 b8) := by
  refine ⟨fun _ _ => by kernel_rfl, fun l W W' h hk => ?_, fun l x W h hx _ hW => ?_⟩
  · obtain ⟨z, hz, hl⟩ := h.last
    exact ⟨(HA []).stay [] _ _ h.in_ (hk.mono fun k _ q => Nat.le_trans hB q), (hk.block b5 (lt_heap h.fn) (by omega)).trans h.fn, z, (hk.block b8 (lt_heap hz) (by omega)).trans hz, hl⟩
  · obtain ⟨z, hz, _⟩ := h.last
    have x8 := blk_cell hz 0
    have y8 := blk_free hz 0
    have hZ8 : (W.setCell ⟨b8, 0, none⟩ (.int .u32 (x : Int))).heap[b8]? = some (.cells #[.int .u32 (x : Int)] 32 (0, 0)) := blk_set hz 0 _
    have hK8 : Kept (fun k => k = b8) W (W.setCell ⟨b8, 0, none⟩ (.int .u32 (x : Int))) := (Kept.refl (fun k => k = b8) W).setCell (p := ⟨b8, 0, none⟩) (.inl rfl) _
    have hJ8 : J (W.setCell ⟨b8, 0, none⟩ (.int .u32 (x : Int))) := (HA []).stay [] _ _ h.in_ (hK8.mono fun k _ q => by have q : k = b8 := q; omega)
    have h5' : (W.setCell ⟨b8, 0, none⟩ (.int .u32 (x : Int))).heap[b5]? = some (.cells #[.func (.func fid) #[] cap] 72 (0, 0)) := (hK8.block b5 (lt_heap h.fn) h58).trans h.fn
    have HC := Lib.hid ((HA [x]).call [] x _ hJ8 hx List.prefix_rfl (by have := hK8.size; omega))
    have hcf := (HA []).eg (#[.int .u32 (x : Int)] ++ cap) (W.setCell ⟨b8, 0, none⟩ (.int .u32 (x : Int)))
    have x5 := blk_cell h5' 0
    have H5 := Lib.hid h5'
    have H8 := Lib.hid hZ8
    have HK8 := Lib.hid hK8
    clear h hz hJ8 h5' hZ8 hK8 HA
    show Calls Try.prog 70 #[.int .u32 (x : Int), .pointer (some ⟨b8, 0, none⟩), .pointer (some ⟨b5, 0, none⟩)] W _
    go_enter Try.func70, Try.ntmps70
    go_wp2_with (first
      | (refine HC.out.mono ?_
         rintro e u ⟨rfl, hj, hk⟩
         have HJ := Lib.hid hj
         have HK := Lib.hid hk
         clear hj hk))
    go_ret
    refine ⟨rfl, ⟨HJ.out, (HK.out.block b5 (lt_heap H5.out) fun q => q).trans H5.out, x, (HK.out.block b8 (lt_heap H8.out) fun q => q).trans H8.out, fun y e => ?_⟩, HK8.out.trans HK.out fun _ _ q => q.elim⟩
    rw [List.getLast?_append] at e
    injection e with e
section
variable {w w' : World} {p pn px : Nat} {s : Gr} {F Fn Fx : Nat → Prop}
/-- One table asked. -/
theorem tfind_k {W : World} {q : Nat} {t : Tb} {G : Nat → Prop} (h : PT0 W q t G) (ht : t.Ok) {H : Nat} (hH : H < 18446744073709551616) {fid : FuncId} {cap : Array Value} {ans : Nat → Bool} {B b5 b8 : Nat} {J : World → Prop} (HA : ∀ T, AsksG fid cap ans (fun _ => False) B T (fun _ => J)) (hB : B ≤ b8) (h5 : b5 < b8) (hG : ¬ G b8) (hJ : AskJ J (.func (.func fid) #[] cap) b5 b8 [] W) :
    Calls Try.prog 66 #[.pointer (some ⟨q, 0, none⟩), .int .u64 (H : Int), .func (.func 70) #[] #[.pointer (some ⟨b8, 0, none⟩), .pointer (some ⟨b5, 0, none⟩)]] W fun e w' => e = .returned (.tuple (t.fnV H ans)) ∧ AskJ J (.func (.func fid) #[] cap) b5 b8 (t.fnL H ans) w' ∧ Kept (fun k => k = b8) W w' := by
  obtain ⟨z, hz, _⟩ := hJ.last
  have hl := lt_heap hz
  exact tabP.find h ht H hH _ _ ans _ (ask_ok HA (by omega) (by omega) hl (by omega) hB _) (fun k e => by rw [e]; exact ⟨hl, hG⟩) hJ
theorem gfind_any (h : PGY w p pn px s F Fn Fx) (hs : s.Ok) (H : Nat) (hH : H < 18446744073709551616) (fid : FuncId) (cap : Array Value) (ans : Nat → Bool) (J : World → Prop) (HA : ∀ T, AsksG fid cap ans (fun _ => False) w.heap.size T (fun _ => J)) (hJ : J w) :
    Calls Try.prog 54 #[.pointer (some ⟨p, 0, none⟩), .int .u64 (H : Int), .func (.func fid) #[] cap] w fun e w' => e = .returned (.tuple (s.gnV H ans)) ∧ J w' ∧ Kept (fun _ => False) w w' := by
  have hb1 := below_alloc w (.cells #[.func (.func fid) #[] cap] 72)
  have hb2 := hb1.alloc hb1.size (.cells #[.int .u32 0] 32)
  have hz1 : (w.alloc (.cells #[.func (.func fid) #[] cap] 72)).heap.size = w.heap.size + 1 := by simp
  have hz2 : ((w.alloc (.cells #[.func (.func fid) #[] cap] 72)).alloc (.cells #[.int .u32 0] 32)).heap.size = w.heap.size + 2 := by simp
  have h5 : ((w.alloc (.cells #[.func (.func fid) #[] cap] 72)).alloc (.cells #[.int .u32 0] 32)).heap[w.heap.size]? = some (.cells #[.func (.func fid) #[] cap] 72 (0, 0)) := blk_old (heap_alloc_new w _) _
  have h8 : ((w.alloc (.cells #[.func (.func fid) #[] cap] 72)).alloc (.cells #[.int .u32 0] 32)).heap[w.heap.size + 1]? = some (.cells #[.int .u32 0] 32 (0, 0)) := by
    have := heap_alloc_new (w.alloc (.cells #[.func (.func fid) #[] cap] 72)) (.cells #[.int .u32 0] 32)
    rwa [hz1] at this
  have hJ2 : AskJ J (.func (.func fid) #[] cap) w.heap.size (w.heap.size + 1) [] ((w.alloc (.cells #[.func (.func fid) #[] cap] 72)).alloc (.cells #[.int .u32 0] 32)) := ⟨(HA []).stay [] _ _ hJ (Kept.of_below hb2 _), h5, 0, h8, fun y e => (by cases e)⟩
  have hw2 := fun (q : Option Addr) (k : Int) (z : Nat) (r : Bool) => gfind_walk (w := w) (q := q) (k := k) (z := z) (r := r) (pa := some ⟨p, 0, none⟩) (fid := fid) (cap := cap) (H := (H : Int)) (K := fun w' => J w' ∧ Kept (fun _ => False) w w')
  revert hw2
  generalize ((w.alloc (.cells #[.func (.func fid) #[] cap] 72)).alloc (.cells #[.int .u32 0] 32)) = u at *
  intro hw2
  have hpu := h.step hb2
  have hFn8 : ¬ Fn (w.heap.size + 1) := fun q => by
    have := h.old _ (h.subN _ q)
    omega
  have fin : ∀ {l : List Nat} {W' : World} {W : World}, Below u.heap.size u W → AskJ J (.func (.func fid) #[] cap) w.heap.size (w.heap.size + 1) l W' → Kept (fun k => k = w.heap.size + 1) W W' → J W' ∧ Kept (fun _ => False) w W' := fun hW hJ' hk => by
    have q1 := hb2.trans (hW.mono hb2.size)
    exact ⟨hJ'.in_, Kept.of_below (q1.trans (hk.below q1.size fun k e => by have e : k = w.heap.size + 1 := e; omega)) _⟩
  have hF1 : ∀ W, Below u.heap.size u W → Calls Try.prog 66 #[.pointer (some ⟨pn, 0, none⟩), .int .u64 (H : Int), .func (.func 70) #[] #[.pointer (some ⟨w.heap.size + 1, 0, none⟩), .pointer (some ⟨w.heap.size, 0, none⟩)]] W fun e w' => e = .returned (.tuple (s.now.fnV H ans)) ∧ AskJ J (.func (.func fid) #[] cap) w.heap.size (w.heap.size + 1) (s.now.fnL H ans) w' ∧ Kept (fun k => k = w.heap.size + 1) W w' := fun W hW => by
    refine tfind_k (pt0_step hpu.now hW) hs.now hH HA (by omega) (by omega) hFn8 ?_
    exact ⟨(HA []).stay [] _ _ hJ2.in_ (Kept.of_below hW _ |>.mono fun k _ q => q), (hW.block _ (lt_heap h5)).trans h5, 0, (hW.block _ (lt_heap h8)).trans h8, fun y e => (by cases e)⟩
  unfold Gr.gnV Gr.gn
  cases e1 : s.now.fn H ans with
  | some k =>
    refine (hw2 (some ⟨pn, 0, none⟩) ((k : Int)) (s.now.ew k) true (gseek_1 hpu.both fun W hW => (hF1 W hW).mono ?_)).mono fun e w' hh => ⟨hh.1, hh.2⟩
    rintro e w' ⟨rfl, hj, hk⟩
    refine ⟨by unfold Tb.fnV; rw [e1], fun _ => ?_, fin hW hj hk⟩
    obtain ⟨z, hz, hl⟩ := hj.last
    rw [← hl _ (fnL_last e1)]
    exact hz
  | none =>
    have hF1' : ∀ W, Below u.heap.size u W → Calls Try.prog 66 #[.pointer (some ⟨pn, 0, none⟩), .int .u64 (H : Int), .func (.func 70) #[] #[.pointer (some ⟨w.heap.size + 1, 0, none⟩), .pointer (some ⟨w.heap.size, 0, none⟩)]] W fun e w' => e = .returned (.tuple #[.int .i64 0, .bool false]) ∧ (Below w.heap.size w w' ∧ Kept (fun k => k = w.heap.size + 1) u w' ∧ AskJ J (.func (.func fid) #[] cap) w.heap.size (w.heap.size + 1) [] w') := fun W hW => by
      refine (hF1 W hW).mono ?_
      rintro e w' ⟨rfl, hj, hk⟩
      have q1 := hb2.trans (hW.mono hb2.size)
      refine ⟨by unfold Tb.fnV; rw [e1], q1.trans (hk.below q1.size fun k e => by have e : k = w.heap.size + 1 := e; omega), (Kept.of_below hW (fun k => k = w.heap.size + 1)).trans hk fun _ _ q => q, hj.anew⟩
    cases hm : s.mv with
    | true =>
      have hFx8 : ¬ Fx (w.heap.size + 1) := fun q => by
        have := h.old _ (h.subX hm _ q)
        omega
      have hbo := hpu.both
      rw [hm, if_pos rfl] at hbo
      have hF2 : ∀ W, (Below w.heap.size w W ∧ Kept (fun k => k = w.heap.size + 1) u W ∧ AskJ J (.func (.func fid) #[] cap) w.heap.size (w.heap.size + 1) [] W) → Calls Try.prog 66 #[.pointer (some ⟨px, 0, none⟩), .int .u64 (H : Int), .func (.func 70) #[] #[.pointer (some ⟨w.heap.size + 1, 0, none⟩), .pointer (some ⟨w.heap.size, 0, none⟩)]] W fun e w' => e = .returned (.tuple (s.next.fnV H ans)) ∧ AskJ J (.func (.func fid) #[] cap) w.heap.size (w.heap.size + 1) (s.next.fnL H ans) w' ∧ J w' ∧ Kept (fun _ => False) w w' := fun W ⟨hb, hk, hj⟩ => by
        refine (tfind_k (footPT0.keep (hpu.next hm) hk fun k hk' e => hFx8 (by rw [← show k = w.heap.size + 1 from e]; exact hk')) (hs.next hm) hH HA (by omega) (by omega) hFx8 hj).mono ?_
        rintro e w' ⟨rfl, hj', hk'⟩
        exact ⟨rfl, hj', hj'.in_, Kept.of_below (hb.trans (hk'.below hb.size fun k e => by have e : k = w.heap.size + 1 := e; omega)) _⟩
      rw [if_pos rfl]
      cases e2 : s.next.fn H ans with
      | some k =>
        refine (hw2 (some ⟨px, 0, none⟩) ((k : Int)) (s.next.ew k) true (gseek_2 hbo hF1' fun W hW => (hF2 W hW).mono ?_)).mono fun e w' hh => ⟨hh.1, hh.2⟩
        rintro e w' ⟨rfl, hj, hk⟩
        refine ⟨by unfold Tb.fnV; rw [e2], fun _ => ?_, hk⟩
        obtain ⟨z, hz, hl⟩ := hj.last
        rw [← hl _ (fnL_last e2)]
        exact hz
      | none =>
        refine (hw2 (some ⟨px, 0, none⟩) (0) (0) false (gseek_2 hbo hF1' fun W hW => (hF2 W hW).mono ?_)).mono fun e w' hh => ⟨hh.1, hh.2⟩
        rintro e w' ⟨rfl, hj, hk⟩
        exact ⟨by unfold Tb.fnV; rw [e2], fun e => (by cases e), hk⟩
    | false =>
      have hbo := hpu.both
      rw [hm, if_neg Bool.false_ne_true] at hbo
      rw [if_neg Bool.false_ne_true]
      refine (hw2 (none) (0) (0) false (gseek_2 hbo hF1' fun W hW => (tfind_un (fun W' _ => tmade_un (.inl rfl)) H _ _).mono ?_)).mono fun e w' hh => ⟨hh.1, hh.2⟩
      rintro e w' ⟨rfl, hb⟩
      have q2 := hW.1.trans (hb.mono hW.1.size)
      exact ⟨rfl, fun e => (by cases e), (HA []).stay [] _ _ hW.2.2.in_ (Kept.of_below hb _ |>.mono fun k _ q => q), Kept.of_below q2 _⟩
end
end Go.Proofs.Ythjghofjdcepmaa
/- Stage 14: the landed growing table: Drop. -/
namespace Go.Proofs.Ythjghofjdcepmaa
set_option maxRecDepth 100000
open Go.RowKit Go.Shelf
theorem gdrop_none {w : World} {pa q : Option Addr} {H X : Nat} {k : Int} {K : World → Prop} (hc : ∀ W, Below w.heap.size w W → Calls Try.prog 28 #[.pointer pa] W (ret (.bool true) W))
    (hsk : ∀ W, Below (w.alloc (.cells #[.int .u64 (H : Int), .int .u32 (X : Int)] 34)).heap.size (w.alloc (.cells #[.int .u64 (H : Int), .int .u32 (X : Int)] 34)) W → Calls Try.prog 39 #[.pointer pa, .int .u64 (H : Int), .func (.func 40) #[] #[.pointer (some ⟨w.heap.size, 0, none⟩)]] W fun e w' => e = .returned (.tuple #[.pointer q, .int .i64 k, .bool false]) ∧ K w') :
    Calls Try.prog 12 #[.pointer pa, .agg #[.int .u64 (H : Int), .int .u32 (X : Int)]] w fun e w' => e = .returned (.int .i64 7) ∧ K w' := by
  have HC := Lib.hid hc
  have HSK := Lib.hid hsk
  have HB0 : Hid (Below w.heap.size w (w.alloc (.cells #[.int .u64 (H : Int), .int .u32 (X : Int)] 34))) := Lib.hid (below_alloc w _)
  have HE0 : Hid ((w.alloc (.cells #[.int .u64 (H : Int), .int .u32 (X : Int)] 34)).heap[w.heap.size]? = some (.cells #[.int .u64 (H : Int), .int .u32 (X : Int)] 34 (0, 0))) := Lib.hid (heap_alloc_new w _)
  clear hc hsk
  obtain ⟨b, hb⟩ : ∃ b, b = w.heap.size := ⟨_, rfl⟩
  rw [← hb] at HE0 HSK
  go_enter Try.func12, Try.ntmps12
  go_upto_region 1 with fail
  change Code.wp _ _ _ _ (w.alloc (.cells #[.int .u64 (H : Int), .int .u32 (X : Int)] 34))
  rw [← hb]
  clear hb
  generalize (w.alloc (.cells #[.int .u64 (H : Int), .int .u32 (X : Int)] 34)) = u0 at *
  go_wp2_with (first
    | (go_at_call 28
       refine (HC.out u0 HB0.out).mono ?_
       rintro e u1 ⟨rfl, hb⟩
       have HB1 := Lib.hid hb
       have x0 : u1.cell? ⟨b, 0, none⟩ = some (.int .u64 (H : Int)) := blk_cell ((hb.block b (lt_heap HE0.out)).trans HE0.out) 0
       clear hb)
    | (go_at_call 39
       refine (HSK.out u1 HB1.out).mono ?_
       rintro e u2 ⟨rfl, hk⟩
       have HK := Lib.hid hk
       clear hk x0))
  go_ret
  exact ⟨rfl, HK.out⟩
theorem gdrop_some {w : World} {pa q : Option Addr} {H X : Nat} {k : Int} {K : World → Prop} {E : Int} {L : World → Prop} (hc : ∀ W, Below w.heap.size w W → Calls Try.prog 28 #[.pointer pa] W (ret (.bool true) W))
    (hsk : ∀ W, Below (w.alloc (.cells #[.int .u64 (H : Int), .int .u32 (X : Int)] 34)).heap.size (w.alloc (.cells #[.int .u64 (H : Int), .int .u32 (X : Int)] 34)) W → Calls Try.prog 39 #[.pointer pa, .int .u64 (H : Int), .func (.func 40) #[] #[.pointer (some ⟨w.heap.size, 0, none⟩)]] W fun e w' => e = .returned (.tuple #[.pointer q, .int .i64 k, .bool true]) ∧ K w')
    (hdr : ∀ W, K W → Calls Try.prog 41 #[.pointer q, .int .i64 k] W fun e w' => e = .returned (.int .i64 E) ∧ L w') :
    Calls Try.prog 12 #[.pointer pa, .agg #[.int .u64 (H : Int), .int .u32 (X : Int)]] w fun e w' => e = .returned (.int .i64 E) ∧ L w' := by
  have HC := Lib.hid hc
  have HSK := Lib.hid hsk
  have HB0 : Hid (Below w.heap.size w (w.alloc (.cells #[.int .u64 (H : Int), .int .u32 (X : Int)] 34))) := Lib.hid (below_alloc w _)
  have HE0 : Hid ((w.alloc (.cells #[.int .u64 (H : Int), .int .u32 (X : Int)] 34)).heap[w.heap.size]? = some (.cells #[.int .u64 (H : Int), .int .u32 (X : Int)] 34 (0, 0))) := Lib.hid (heap_alloc_new w _)
  have HDR := Lib.hid hdr
  clear hdr
  clear hc hsk
  obtain ⟨b, hb⟩ : ∃ b, b = w.heap.size := ⟨_, rfl⟩
  rw [← hb] at HE0 HSK
  go_enter Try.func12, Try.ntmps12
  go_upto_region 1 with fail
  change Code.wp _ _ _ _ (w.alloc (.cells #[.int .u64 (H : Int), .int .u32 (X : Int)] 34))
  rw [← hb]
  clear hb
  generalize (w.alloc (.cells #[.int .u64 (H : Int), .int .u32 (X : Int)] 34)) = u0 at *
  go_wp2_with (first
    | (go_at_call 28
       refine (HC.out u0 HB0.out).mono ?_
       rintro e u1 ⟨rfl, hb⟩
       have HB1 := Lib.hid hb
       have x0 : u1.cell? ⟨b, 0, none⟩ = some (.int .u64 (H : Int)) := blk_cell ((hb.block b (lt_heap HE0.out)).trans HE0.out) 0
       clear hb)
    | (go_at_call 39
       refine (HSK.out u1 HB1.out).mono ?_
       rintro e u2 ⟨rfl, hk⟩
       have HK := Lib.hid hk
       clear hk x0)
    | (go_at_call 41
       refine (HDR.out u2 HK.out).mono ?_
       rintro e u3 ⟨rfl, hk⟩
       have HL := Lib.hid hk
       clear hk))
  go_ret
  exact ⟨rfl, HL.out⟩
theorem gdrop_un {w : World} {pa : Option Addr} (h : UnG pa w) (H X : Nat) : Calls Try.prog 12 #[.pointer pa, .agg #[.int .u64 (H : Int), .int .u32 (X : Int)]] w (ret (.int .i64 1) w) := by
  have HC := Lib.hid (fun W (hW : Below w.heap.size w W) => gmade_un (h.step hW))
  have HB0 : Hid (Below w.heap.size w (w.alloc (.cells #[.int .u64 (H : Int), .int .u32 (X : Int)] 34))) := Lib.hid (below_alloc w _)
  clear h
  go_enter Try.func12, Try.ntmps12
  go_upto_region 1 with fail
  change Code.wp _ _ _ _ (w.alloc (.cells #[.int .u64 (H : Int), .int .u32 (X : Int)] 34))
  generalize (w.alloc (.cells #[.int .u64 (H : Int), .int .u32 (X : Int)] 34)) = u0 at *
  go_wp2_with (first
    | (go_at_call 28
       refine (HC.out u0 HB0.out).mono ?_
       rintro e u1 ⟨rfl, hb⟩
       have HB1 := Lib.hid (HB0.out.trans (hb.mono HB0.out.size))
       clear hb))
  go_ret
  exact ⟨rfl, HB1.out⟩
theorem drop_asks (b H X : Nat) (b0 : Nat) (T : List Nat) (hb : b < b0) : AsksG 40 #[.pointer (some ⟨b, 0, none⟩)] (fun y => y == X) (fun _ => False) b0 T (fun _ W => W.heap[b]? = some (.cells #[.int .u64 (H : Int), .int .u32 (X : Int)] 34 (0, 0))) := by
  refine ⟨fun _ _ => (by kernel_rfl), fun _ W W' h hk => (hk.block b (lt_heap h) (by omega)).trans h, fun l x W h hx _ _ => ?_⟩
  have x1 : W.cell? ⟨b, 1, none⟩ = some (.int .u32 (X : Int)) := blk_cell h 1
  have HH := Lib.hid h
  have key : ∀ r : Bool, (((x : Int) == (X : Int)) = r) → (x == X) = r → Calls Try.prog 40 #[.int .u32 (x : Int), .pointer (some ⟨b, 0, none⟩)] W fun e W' => e = .returned (.bool (x == X)) ∧ W'.heap[b]? = some (.cells #[.int .u64 (H : Int), .int .u32 (X : Int)] 34 (0, 0)) ∧ Kept (fun _ => False) W W' := by
    intro r e1 e2
    have e2 := Lib.hid e2
    clear h
    cases r with
    | true =>
      go_enter Try.func40, Try.ntmps40
      go_wp2_with fail
      go_ret
      exact ⟨by rw [e2.out]; rfl, HH.out, Kept.refl _ _⟩
    | false =>
      go_enter Try.func40, Try.ntmps40
      go_wp2_with fail
      go_ret
      exact ⟨by rw [e2.out]; rfl, HH.out, Kept.refl _ _⟩
  by_cases e : x = X
  · exact key true (by rw [beq_iff_eq]; omega) (by simpa using e)
  · exact key false (by rw [beq_eq_false_iff_ne]; omega) (by simpa using e)
section
variable {w w' : World} {p pn px : Nat} {s : Gr} {F Fn Fx : Nat → Prop}
theorem gdrop_any (h : PGY w p pn px s F Fn Fx) (hs : s.Ok) (H X : Nat) (hH : H < 18446744073709551616) : Calls Try.prog 12 #[.pointer (some ⟨p, 0, none⟩), .agg #[.int .u64 (H : Int), .int .u32 (X : Int)]] w fun e w' => e = .returned (.int .i64 (s.drE H X)) ∧ ∃ F', PG0 w' p (s.dr H X) F' ∧ ExtG F F' w w' := by
  have hb0 := below_alloc w (.cells #[.int .u64 (H : Int), .int .u32 (X : Int)] 34)
  have hl : (w.alloc (.cells #[.int .u64 (H : Int), .int .u32 (X : Int)] 34)).heap[w.heap.size]? = some (.cells #[.int .u64 (H : Int), .int .u32 (X : Int)] 34 (0, 0)) := heap_alloc_new w _
  have hz : (w.alloc (.cells #[.int .u64 (H : Int), .int .u32 (X : Int)] 34)).heap.size = w.heap.size + 1 := by simp
  have hN := fun (K : World → Prop) (q : Option Addr) (k : Int) => gdrop_none (w := w) (pa := some ⟨p, 0, none⟩) (q := q) (H := H) (X := X) (k := k) (K := K) fun W hW => (h.step hW).made
  have hY := fun (K L : World → Prop) (q : Option Addr) (k E : Int) => gdrop_some (w := w) (pa := some ⟨p, 0, none⟩) (q := q) (H := H) (X := X) (k := k) (K := K) (L := L) (E := E) fun W hW => (h.step hW).made
  revert hN hY
  generalize (w.alloc (.cells #[.int .u64 (H : Int), .int .u32 (X : Int)] 34)) = u at *
  intro hN hY
  have up : ∀ {W W' : World}, Below u.heap.size u W → Below W.heap.size W W' → Below u.heap.size u W' := fun a b => a.trans (b.mono a.size)
  have kb : ∀ {W W' : World}, Kept (fun _ => False) W W' → Below W.heap.size W W' := fun k => k.below (Nat.le_refl _) fun _ q => q.elim
  have hfd : ∀ {W : World} {q : Nat} {t : Tb} {G : Nat → Prop}, Below u.heap.size u W → PT0 W q t G → t.Ok → Calls Try.prog 66 #[.pointer (some ⟨q, 0, none⟩), .int .u64 (H : Int), .func (.func 40) #[] #[.pointer (some ⟨w.heap.size, 0, none⟩)]] W fun e w' => e = .returned (.tuple (t.fdV H X)) ∧ Below W.heap.size W w' := fun {W q t G} hW hq ht => by
    refine (tabP.find hq ht H hH _ _ (fun y => y == X) _ (drop_asks w.heap.size H X W.heap.size _ (by have := hW.size; omega)) (fun _ q => q.elim) ((hW.block _ (lt_heap hl)).trans hl)).mono ?_
    rintro e w' ⟨rfl, _, hk⟩
    exact ⟨by rw [Tb.fnV_find], kb hk⟩
  have hst : ∀ {W : World}, Below u.heap.size u W → PGY W p pn px s F Fn Fx ∧ ExtG F F w W := fun hW => ⟨h.step (hb0.trans (hW.mono hb0.size)), ExtG.of_below (hb0.trans (hW.mono hb0.size))⟩
  unfold Gr.drE Gr.dr
  cases e1 : s.now.find H X with
  | some k =>
    refine hY (fun W => Below u.heap.size u W) (fun W' => ∃ F', PG0 W' p ⟨s.now.dr (k : Int), s.next, s.mv, s.most, s.at_⟩ F' ∧ ExtG F F' w W') (some ⟨pn, 0, none⟩) (k : Int) (s.now.drE (k : Int)) (fun W hW => gseek_1 ((hst hW).1.both) fun W2 hW2 => (hfd (up hW hW2) (hst (up hW hW2)).1.now hs.now).mono ?_) fun W hW => (tabP.drop (hst hW).1.now hs.now (k : Int)).mono ?_
    · rintro e w' ⟨rfl, hb⟩
      exact ⟨by rw [fdV_some e1], up (up hW hW2) hb⟩
    · rintro e w' ⟨rfl, F', ha, hx⟩
      have h1 := (hst hW).1.setN ha hx
      exact ⟨rfl, _, ⟨_, _, _, _, h1.1⟩, (hst hW).2.trans h1.2⟩
  | none =>
    have hf1 : ∀ W, Below u.heap.size u W → ∀ W2, Below W.heap.size W W2 → Calls Try.prog 66 #[.pointer (some ⟨pn, 0, none⟩), .int .u64 (H : Int), .func (.func 40) #[] #[.pointer (some ⟨w.heap.size, 0, none⟩)]] W2 fun e w' => e = .returned (.tuple #[.int .i64 0, .bool false]) ∧ Below u.heap.size u w' := fun W hW W2 hW2 => by
      refine (hfd (up hW hW2) (hst (up hW hW2)).1.now hs.now).mono ?_
      rintro e w' ⟨rfl, hb⟩
      exact ⟨by rw [fdV_none e1], up (up hW hW2) hb⟩
    cases hm : s.mv with
    | true =>
      rw [if_pos rfl, if_pos rfl]
      have hbo : ∀ W, Below u.heap.size u W → Calls Try.prog 53 #[.pointer (some ⟨p, 0, none⟩)] W (ret (.agg #[.pointer (some ⟨pn, 0, none⟩), .pointer (some ⟨px, 0, none⟩)]) W) := fun W hW => by
        have := (hst hW).1.both
        rwa [hm, if_pos rfl] at this
      cases e2 : s.next.find H X with
      | some k =>
        refine hY (fun W => Below u.heap.size u W) (fun W' => ∃ F', PG0 W' p ⟨s.now, s.next.dr (k : Int), true, s.most, s.at_⟩ F' ∧ ExtG F F' w W') (some ⟨px, 0, none⟩) (k : Int) (s.next.drE (k : Int)) (fun W hW => gseek_2 (hbo W hW) (hf1 W hW) fun W2 hW2 => (hfd hW2 ((hst hW2).1.next hm) (hs.next hm)).mono ?_) fun W hW => (tabP.drop ((hst hW).1.next hm) (hs.next hm) (k : Int)).mono ?_
        · rintro e w' ⟨rfl, hb⟩
          exact ⟨by rw [fdV_some e2], up hW2 hb⟩
        · rintro e w' ⟨rfl, F', ha, hx⟩
          have h1 := (hst hW).1.setX hm ha hx
          exact ⟨rfl, _, ⟨_, _, _, _, h1.1⟩, (hst hW).2.trans h1.2⟩
      | none =>
        refine (hN (fun W => Below u.heap.size u W) (some ⟨px, 0, none⟩) 0 (fun W hW => gseek_2 (hbo W hW) (hf1 W hW) fun W2 hW2 => (hfd hW2 ((hst hW2).1.next hm) (hs.next hm)).mono ?_)).mono ?_
        · rintro e w' ⟨rfl, hb⟩
          exact ⟨by rw [fdV_none e2], up hW2 hb⟩
        · rintro e w' ⟨rfl, hb⟩
          exact ⟨rfl, _, ⟨_, _, _, _, (hst hb).1⟩, (hst hb).2⟩
    | false =>
      rw [if_neg Bool.false_ne_true, if_neg Bool.false_ne_true]
      have hbo : ∀ W, Below u.heap.size u W → Calls Try.prog 53 #[.pointer (some ⟨p, 0, none⟩)] W (ret (.agg #[.pointer (some ⟨pn, 0, none⟩), .pointer none]) W) := fun W hW => by
        have := (hst hW).1.both
        rwa [hm, if_neg Bool.false_ne_true] at this
      refine (hN (fun W => Below u.heap.size u W) none 0 (fun W hW => gseek_2 (hbo W hW) (hf1 W hW) fun W2 hW2 => (tfind_un (fun W' _ => tmade_un (.inl rfl)) H _ _).mono ?_)).mono ?_
      · rintro e w' ⟨rfl, hb⟩
        exact ⟨rfl, up hW2 hb⟩
      · rintro e w' ⟨rfl, hb⟩
        exact ⟨rfl, _, ⟨_, _, _, _, (hst hb).1⟩, (hst hb).2⟩
end
end Go.Proofs.Ythjghofjdcepmaa
