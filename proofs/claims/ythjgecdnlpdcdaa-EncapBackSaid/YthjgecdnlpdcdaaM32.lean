import Derived.Test.YthjgecdnlpdcdaaM28
import Derived.Test.YthjgecdnlpdcdaaM29
import Derived.Test.YthjgecdnlpdcdaaM30
import Derived.Test.YthjgecdnlpdcdaaM31
/- The program's Write. -/
namespace Go.Proofs.Ythjgecdnlpdcdaa
set_option maxRecDepth 100000
open Go.RowKit
theorem four_same (s : Nat → Int) : fourA s = fourB s := by
  have h : fourA s = true ↔ fourB s = true := by
    unfold fourA fourB
    rw [eqs_iff, eqs_iff]
    constructor
    · intro h k _ hk
      unfold adr
      by_cases h4 : k < 4
      · rw [if_pos h4]
      · rw [if_neg h4]
        have := h (k - 4) (by omega) (by omega)
        rwa [show 4 + (k - 4) = k by omega] at this
    · intro h k _ hk
      have := h (4 + k) (by omega) (by omega)
      unfold adr at this
      rwa [if_neg (by omega)] at this
  cases ha : fourA s <;> cases hb : fourB s <;> simp [ha, hb] at h <;> rfl
/-- Write's own memory: the header that came in, the bytes so far, and the variable that holds them. -/
structure WrS (w W : World) (g p : Nat) (cs : Array Value) (n c : Nat) (f : Nat → Int) : Prop where
  box : W.heap[w.heap.size]? = some (.cells cs 61 (0, 0))
  ptr : W.heap[p]? = some (.cells #[.slice (some ⟨g, 0, none⟩) n c] 26 (0, 0))
  own : Own W (w.heap.size + 1) 5 (some ⟨g, 0, none⟩) n c f
  below : Below w.heap.size w W
  lt : w.heap.size < g
  ne : p ≠ g
theorem WrS.two {w W : World} {g p : Nat} {cs : Array Value} {n c : Nat} {f : Nat → Int} (h : WrS w W g p cs n c f) (i j : Nat) (x y : Int) :
    WrS w ((W.setCell ⟨g, i, none⟩ (.int .u8 x)).setCell ⟨g, j, none⟩ (.int .u8 y)).drew g p cs n c (upd (upd f i x) j y) :=
  ⟨blk_far (blk_far h.box (Nat.ne_of_lt h.lt) _) (Nat.ne_of_lt h.lt) _, blk_far (blk_far h.ptr h.ne _) h.ne _, ((h.own.set_ i x).set_ j y).drew, ((h.below.setCell (Nat.le_of_lt h.lt) _).setCell (Nat.le_of_lt h.lt) _).drew, h.lt, h.ne⟩
theorem WrS.cells {w W : World} {g p : Nat} {cs : Array Value} {n c : Nat} {f f' : Nat → Int} (h : WrS w W g p cs n c f) (o : Nat) (vs : List Value) (ho : Own (W.setCells g o vs) (w.heap.size + 1) 5 (some ⟨g, 0, none⟩) n c f') : WrS w (W.setCells g o vs) g p cs n c f' :=
  ⟨(other_setCells (Nat.ne_of_lt h.lt) vs o W).trans h.box, (other_setCells h.ne vs o W).trans h.ptr, ho, below_setCells (Nat.le_of_lt h.lt) vs o W h.below, h.lt, h.ne⟩
theorem WrS.step {w W W' : World} {g p : Nat} {cs : Array Value} {n c : Nat} {f : Nat → Int} (h : WrS w W g p cs n c f) (hb : Below W.heap.size W W') : WrS w W' g p cs n c f :=
  ⟨(hb.block _ (lt_heap h.box)).trans h.box, (hb.block _ (lt_heap h.ptr)).trans h.ptr, h.own.below hb, h.below.trans (hb.mono h.below.size), h.lt, h.ne⟩
theorem WrS.drew {w W : World} {g p : Nat} {cs : Array Value} {n c : Nat} {f : Nat → Int} (h : WrS w W g p cs n c f) : WrS w W.drew g p cs n c f := ⟨h.box, h.ptr, h.own.drew, h.below.drew, h.lt, h.ne⟩
theorem WrS.same {w W : World} {g p : Nat} {cs : Array Value} {n c : Nat} {f f' : Nat → Int} (h : WrS w W g p cs n c f) (hf : ∀ k, k < n → f' k = f k) : WrS w W g p cs n c f' := ⟨h.box, h.ptr, h.own.same hf, h.below, h.lt, h.ne⟩
theorem WrS.at_ {w W : World} {g p : Nat} {cs : Array Value} {n c : Nat} {f : Nat → Int} (h : WrS w W g p cs n c f) (k : Nat) (hk : k < n) : W.cell? ⟨g, k, none⟩ = some (.int .u8 (f k)) ∧ W.frozen? ⟨g, k, none⟩ = false := by
  obtain ⟨g', hg', _, _, hcell, hfro⟩ := h.own.lies (by omega)
  injection hg' with hg'
  injection hg' with hg'
  subst hg'
  exact ⟨hcell k hk, hfro k⟩
theorem WrS.var {w W : World} {g p : Nat} {cs : Array Value} {n c : Nat} {f : Nat → Int} (h : WrS w W g p cs n c f) : W.cell? ⟨p, 0, none⟩ = some (.slice (some ⟨g, 0, none⟩) n c) := blk_cell h.ptr 0
/-- The bytes that stand there, step by step. -/
def wrA (on : Nat) (tos : Int) : Nat → Int := upd (upd (fun _ => 0) 0 (64 + (20 + (on : Int)) / 4)) 1 tos
def wrB (on n : Nat) (tos id : Int) : Nat → Int := upd (upd (upd (upd (wrA on tos) 2 ((20 + (on : Int) + (n : Int)) / 256)) 3 ((20 + (on : Int) + (n : Int)) % 256)) 4 (id / 256)) 5 (id % 256)
def wrC (on n : Nat) (tos id : Int) (df : Bool) : Nat → Int := upd (upd (wrB on n tos id) 6 (if df then 64 else 0)) 7 0
theorem wrC_false (on n : Nat) (tos id : Int) (k : Nat) : wrC on n tos id false k = wrB on n tos id k := by
  unfold wrC wrB wrA upd
  by_cases h7 : k = 7
  · subst h7; simp
  · rw [if_neg h7]
    by_cases h6 : k = 6
    · subst h6; simp
    · rw [if_neg h6]
def wrD (on n : Nat) (tos id : Int) (df : Bool) (ttl proto : Int) (s d fo : Nat → Int) : Nat → Int := over 20 on fo (over 16 4 d (over 12 4 s (upd (upd (wrC on n tos id df) 8 ttl) 9 proto)))
theorem wrD_hdr (on n : Nat) (tos id : Int) (df : Bool) (ttl proto : Int) (s d fo : Nat → Int) (k : Nat) (hk : k < 20 + on) : hdr0 tos id df ttl proto s d on fo (20 + on + n) k = wrD on n tos id df ttl proto s d fo k := by
  have e : ((20 + on + n : Nat) : Int) = 20 + (on : Int) + (n : Int) := by omega
  unfold wrD
  by_cases h20 : 20 ≤ k
  · have e1 : over 20 on fo (over 16 4 d (over 12 4 s (upd (upd (wrC on n tos id df) 8 ttl) 9 proto))) k = fo (k - 20) := by unfold over; rw [if_pos (by omega)]
    rw [e1]
    unfold hdr0
    rw [if_neg (by omega), if_neg (by omega), if_neg (by omega), if_neg (by omega), if_neg (by omega), if_neg (by omega), if_neg (by omega), if_neg (by omega), if_neg (by omega), if_neg (by omega), if_neg (by omega), if_neg (by omega), if_neg (by omega), if_neg (by omega), if_pos hk]
  · have e1 : over 20 on fo (over 16 4 d (over 12 4 s (upd (upd (wrC on n tos id df) 8 ttl) 9 proto))) k = over 16 4 d (over 12 4 s (upd (upd (wrC on n tos id df) 8 ttl) 9 proto)) k := by
      show (if 20 ≤ k ∧ k < 20 + on then _ else _) = _
      rw [if_neg (by omega)]
    rw [e1]
    by_cases h16 : 16 ≤ k
    · have e2 : over 16 4 d (over 12 4 s (upd (upd (wrC on n tos id df) 8 ttl) 9 proto)) k = d (k - 16) := by unfold over; rw [if_pos (by omega)]
      rw [e2]
      unfold hdr0
      rw [if_neg (by omega), if_neg (by omega), if_neg (by omega), if_neg (by omega), if_neg (by omega), if_neg (by omega), if_neg (by omega), if_neg (by omega), if_neg (by omega), if_neg (by omega), if_neg (by omega), if_neg (by omega), if_neg (by omega), if_pos (by omega)]
    · have e2 : over 16 4 d (over 12 4 s (upd (upd (wrC on n tos id df) 8 ttl) 9 proto)) k = over 12 4 s (upd (upd (wrC on n tos id df) 8 ttl) 9 proto) k := by
        show (if 16 ≤ k ∧ k < 16 + 4 then _ else _) = _
        rw [if_neg (by omega)]
      rw [e2]
      by_cases h12 : 12 ≤ k
      · have e3 : over 12 4 s (upd (upd (wrC on n tos id df) 8 ttl) 9 proto) k = s (k - 12) := by unfold over; rw [if_pos (by omega)]
        rw [e3]
        unfold hdr0
        rw [if_neg (by omega), if_neg (by omega), if_neg (by omega), if_neg (by omega), if_neg (by omega), if_neg (by omega), if_neg (by omega), if_neg (by omega), if_neg (by omega), if_neg (by omega), if_neg (by omega), if_neg (by omega), if_pos (by omega)]
      · have e3 : over 12 4 s (upd (upd (wrC on n tos id df) 8 ttl) 9 proto) k = upd (upd (wrC on n tos id df) 8 ttl) 9 proto k := by
          show (if 12 ≤ k ∧ k < 12 + 4 then _ else _) = _
          rw [if_neg (by omega)]
        rw [e3]
        obtain rfl | rfl | rfl | rfl | rfl | rfl | rfl | rfl | rfl | rfl | rfl | rfl : k = 0 ∨ k = 1 ∨ k = 2 ∨ k = 3 ∨ k = 4 ∨ k = 5 ∨ k = 6 ∨ k = 7 ∨ k = 8 ∨ k = 9 ∨ k = 10 ∨ k = 11 := by omega
        all_goals simp [hdr0, upd, wrA, wrB, wrC]
/-- What Write tells: the options' fault, ErrArg, ErrLong, or the packet. -/
def Wr4 (base et : Nat) (E : Int) (ok : Bool) (m : Nat) (g : Nat → Int) (w : World) (e : Ending) (w' : World) : Prop :=
  (E ≠ 0 ∧ Write4 base et (fun _ => 0) 0 E w e w') ∨ (E = 0 ∧ ok = false ∧ Write4 base et (fun _ => 0) 0 2 w e w') ∨ (E = 0 ∧ ok = true ∧ 1660 < m ∧ Write4 base et (fun _ => 0) 0 3 w e w') ∨ (E = 0 ∧ ok = true ∧ m ≤ 1660 ∧ Write4 base et g m 0 w e w')
theorem or64 (x : Int) (h : 0 ≤ x) (h' : x < 64) : bits .or .u8 64 x = 64 + x := by
  obtain ⟨n, rfl⟩ := Int.eq_ofNat_of_zero_le h
  have e := u8_or_nat 64 n (by omega) (by omega)
  have q : 64 ||| n = 64 + n := (Nat.two_pow_add_eq_or_of_lt (i := 6) (by omega) 1).symm
  rw [q] at e
  refine e.trans ?_
  omega
set_option maxRecDepth 100000 in
set_option maxHeartbeats 4000000 in
theorem write4_any (tos id : Int) (df : Bool) (ttl proto : Int) (s d : Nat → Int) (O : Option Addr) (on co : Nat) (fo : Nat → Int) (A : Option Addr) (n c : Nat) (f : Nat → Int)
    (h1 : 0 ≤ tos ∧ tos ≤ 255) (h2 : 0 ≤ id ∧ id ≤ 65535) (h3 : 0 ≤ ttl ∧ ttl ≤ 255) (h4 : 0 ≤ proto ∧ proto ≤ 255) (hs : Byt s) (hd : Byt d) (hfo : Byt fo) (hf : Byt f) (hon : on ≤ 9223372036854775807) (hoc : on ≤ co) (hco : co ≤ 9223372036854775807) (hn : n ≤ 9223372036854775807) (w : World) (hro : Rd w w.heap.size O on fo) (hr : Rd w w.heap.size A n f) :
    Calls Try.prog 20 #[.agg (ip4c tos id df ttl proto s d (.slice O on co)), .slice A n c] w fun e w' =>
      Wr4 w.heap.size 5 (optE fo on) (fourB s && fourB d) (20 + on + n) (cat (20 + on) (hdr4 tos id df ttl proto s d on fo (20 + on + n)) f) w e w' := by
  obtain ⟨i0, hi0, hz0, hz1, hz2⟩ := info_parts Try.info5
  have HI0 := Lib.hid hi0
  have HZ0 := Lib.hid hz0
  have HZ1 := Lib.hid hz1
  have HZ2 := Lib.hid hz2
  have HE1 : Hid ((w.alloc (.cells (ip4c tos id df ttl proto s d (.slice O on co)) 61)).heap[w.heap.size]? = some (.cells (ip4c tos id df ttl proto s d (.slice O on co)) 61 (0, 0))) := heap_alloc_new w _
  have HB1 : Hid (Below w.heap.size w (w.alloc (.cells (ip4c tos id df ttl proto s d (.slice O on co)) 61))) := below_alloc w _
  have HRO := Lib.hid hro
  have HR := Lib.hid hr
  have HS := Lib.hid hs
  have HD := Lib.hid hd
  have HFO := Lib.hid hfo
  have HF := Lib.hid hf
  clear hi0 hz0 hz1 hz2 hro hr hs hd hfo hf
  rw [← four_same, ← four_same]
  obtain ⟨E, hE⟩ : ∃ E, E = optE fo on := ⟨_, rfl⟩
  rw [← hE]
  have ho37 : (w.alloc (.cells (ip4c tos id df ttl proto s d (.slice O on co)) 61)).cell? ⟨w.heap.size, 37, none⟩ = some (.slice O on co) := blk_cell HE1.out 37
  have HOP := Lib.hid (options_any O on co fo HFO.out (by omega) hoc hco (w.alloc (.cells (ip4c tos id df ttl proto s d (.slice O on co)) 61)) ((HRO.out.keep HB1.out).more HB1.out.size))
  rw [← hE] at HOP
  have HEE := Lib.hid hE
  clear hE
  have RS := Lib.hid (arr16_range HE1.out (i := 5) ip4_src)
  have RD := Lib.hid (arr16_range HE1.out (i := 21) ip4_dst)
  have hsz1 : (w.alloc (.cells (ip4c tos id df ttl proto s d (.slice O on co)) 61)).heap.size = w.heap.size + 1 := by simp
  have HFS := Lib.hid fun W => fits_any s W
  have HFD := Lib.hid fun W => fits_any d W
  obtain ⟨bs, hbs⟩ : ∃ b, b = fourA s := ⟨_, rfl⟩
  obtain ⟨bd, hbd⟩ : ∃ b, b = fourA d := ⟨_, rfl⟩
  rw [← hbs] at HFS ⊢
  rw [← hbd] at HFD ⊢
  clear hbs hbd
  go_enter Try.func20, Try.ntmps20
  go_upto_if 14 with (first
    | (go_at_call 28; refine HOP.out.mono ?_; rintro e w2 ⟨rfl, rfl⟩))
  clear HOP
  generalize w.alloc (.cells (ip4c tos id df ttl proto s d (.slice O on co)) 61) = w1 at *
  by_cases hE0 : E = 0
  · subst hE0
    obtain ⟨hon40, hon4⟩ := optE_ok HEE.out.symm
    cases bs with
    | false =>
      go_upto_if 25 with (first
        | (refine wpList_load_arr rfl 22 (.tmp 16) rfl w.heap.size 5 rfl (arr16 s) _ RS.out Try.underlying22 rfl (by kernel_rfl) ?_)
        | (go_at_call 29; refine (HFS.out _).mono ?_; rintro e w3 ⟨rfl, hb3⟩; have HB3 := Lib.hid (HB1.out.trans (hb3.mono HB1.out.size)); clear hb3))
      go_wp2_with fail
      go_ret2
      exact .inr (.inl ⟨rfl, rfl, none, 0, rfl, Own.nil_ _ _ _ _, HB3.out⟩)
    | true =>
      go_upto_if 25 with (first
        | (refine wpList_load_arr rfl 22 (.tmp 16) rfl w.heap.size 5 rfl (arr16 s) _ RS.out Try.underlying22 rfl (by kernel_rfl) ?_)
        | (refine wpList_load_arr rfl 22 (.tmp 21) rfl w.heap.size 21 rfl (arr16 d) _ RD3.out Try.underlying22 rfl (by kernel_rfl) ?_)
        | (go_at_call 29; refine (HFS.out _).mono ?_; rintro e w3 ⟨rfl, hb3⟩; have HB3 := Lib.hid (HB1.out.trans (hb3.mono HB1.out.size)); have HE3 := Lib.hid ((hb3.block _ (lt_heap HE1.out)).trans HE1.out); have RD3 := Lib.hid (arr16_range HE3.out (i := 21) ip4_dst); clear hb3 HFS)
        | (go_at_call 29; refine (HFD.out _).mono ?_; rintro e w4 ⟨rfl, hb4⟩; have HB4 := Lib.hid (HB3.out.trans (hb4.mono HB3.out.size)); have HE4 := Lib.hid ((hb4.block _ (lt_heap HE3.out)).trans HE3.out); clear hb4))
      cases bd with
      | false =>
        go_wp2_with fail
        go_ret2
        exact .inr (.inl ⟨rfl, rfl, none, 0, rfl, Own.nil_ _ _ _ _, HB4.out⟩)
      | true =>
        have q37 : w4.cell? ⟨w.heap.size, 37, none⟩ = some (.slice O on co) := blk_cell HE4.out 37
        clear HB3 HE3 RD3 HFD RS RD HE1 ho37 HB1
        by_cases hlong : 1660 < 20 + on + n
        · have hl1 : (1660 : Int) - (20 + (on : Int)) < (n : Int) := by omega
          go_upto_if 34 with fail
          go_wp2_with fail
          go_ret2
          exact .inr (.inr (.inl ⟨rfl, rfl, hlong, none, 0, rfl, Own.nil_ _ _ _ _, HB4.out⟩))
        · have hl1 : (n : Int) ≤ (1660 : Int) - (20 + (on : Int)) := by omega
          go_upto_if 34 with fail
          have hmk : ∀ W : World, (Instr.makeSlice 26 (.int .i64 (20 + (on : Int))) (.int .i64 (20 + (on : Int) + (n : Int)))).run Try.prog W = .ok (.slice (some ⟨W.heap.size, 0, none⟩) (20 + on) (20 + on + n)) (W.alloc (.cells (madeCells (Value.int .u8 0).cells (20 + on + n)) 5)) := fun W => by
            have h := run_make (P := Try.prog) W 26 5 i0 (.int .u8 0) Try.underlying26 HI0.out HZ0.out .i64 .i64 (20 + (on : Int)) (20 + (on : Int) + (n : Int)) (by omega) (by omega) (by rw [HZ2.out]; omega) (by omega)
            have e1 : (20 + (on : Int)).toNat = 20 + on := by omega
            have e2 : (20 + (on : Int) + (n : Int)).toNat = 20 + on + n := by omega
            rw [e1, e2, HZ1.out, Nat.mul_one] at h
            exact h
          go_upto_region 11 with fail
          obtain ⟨g, hg⟩ : ∃ g, g = w4.heap.size := ⟨_, rfl⟩
          rw [← hg]
          have HS5 : Hid (WrS w ((w4.alloc (Obj.cells (madeCells #[Value.int IntKind.u8 0] (20 + on + n)) 5)).alloc (Obj.cells #[Value.slice (some ⟨g, 0, none⟩) (20 + on) (20 + on + n)] 26)) g (g + 1) (ip4c tos id df ttl proto s d (.slice O on co)) (20 + on) (20 + on + n) (fun _ => 0)) := by
            subst hg
            have hlt := lt_heap HE4.out
            refine ⟨blk_old (blk_old HE4.out _) _, ?_, (made_own2 w4 (w.heap.size + 1) 5 (20 + on) (20 + on + n) (by omega) (by omega) (by omega) _ rfl).alloc _, (HB4.out.alloc HB4.out.size _).alloc (Nat.le_trans HB4.out.size (alloc_le w4 _)) _, hlt, by omega⟩
            have e1 : (w4.alloc (Obj.cells (madeCells #[Value.int IntKind.u8 0] (20 + on + n)) 5)).heap.size = w4.heap.size + 1 := by simp
            rw [← e1]
            exact heap_alloc_new _ _
          clear HE4 HB4 q37 hg hmk
          generalize (w4.alloc (Obj.cells (madeCells #[Value.int IntKind.u8 0] (20 + on + n)) 5)).alloc (Obj.cells #[Value.slice (some ⟨g, 0, none⟩) (20 + on) (20 + on + n)] 26) = w5 at *
          have c8 := HS5.out.var
          have c0 : w5.cell? ⟨w.heap.size, 0, none⟩ = some (.int .u8 tos) := blk_cell HS5.out.box 0
          obtain ⟨d0, z0⟩ := HS5.out.at_ 0 (by omega)
          obtain ⟨d1, z1⟩ := HS5.out.at_ 1 (by omega)
          have i0' : (0 : Int) < 20 + (on : Int) := by omega
          have i1' : (1 : Int) < 20 + (on : Int) := by omega
          have hcast : (((20 + on : Nat)) : Int) = 20 + (on : Int) := by omega
          have hq1 : (20 + (on : Int)).tdiv 4 = (20 + (on : Int)) / 4 := Int.tdiv_eq_ediv_of_nonneg (by omega)
          have hq2 : IntKind.u8.wrap ((20 + (on : Int)) / 4) = (20 + (on : Int)) / 4 := by
            simp only [IntKind.wrap_u8]
            omega
          have hq0 : IntKind.i64.wrap ((20 + (on : Int)) / 4) = (20 + (on : Int)) / 4 := by
            rw [IntKind.wrap_i64]
            omega
          have HK : Hid (∀ (i : Nat) (v : Value), (w5.setCell ⟨g, i, none⟩ v).drew.cell? ⟨g + 1, 0, none⟩ = some (.slice (some ⟨g, 0, none⟩) (20 + on) (20 + on + n)) ∧ (w5.setCell ⟨g, i, none⟩ v).drew.cell? ⟨w.heap.size, 0, none⟩ = some (.int .u8 tos)) := fun i v =>
            ⟨blk_cell (blk_far HS5.out.ptr HS5.out.ne (p := ⟨g, i, none⟩) v) 0, blk_cell (blk_far HS5.out.box (Nat.ne_of_lt HS5.out.lt) (p := ⟨g, i, none⟩) v) 0⟩
          have HK0 : Hid (w5.drew.cell? ⟨g + 1, 0, none⟩ = some (.slice (some ⟨g, 0, none⟩) (20 + on) (20 + on + n)) ∧ w5.drew.cell? ⟨w.heap.size, 0, none⟩ = some (.int .u8 tos)) := ⟨c8, c0⟩
          have HK2 : Hid (∀ (i j : Nat) (u v : Value), ((w5.setCell ⟨g, i, none⟩ u).setCell ⟨g, j, none⟩ v).drew.cell? ⟨g + 1, 0, none⟩ = some (.slice (some ⟨g, 0, none⟩) (20 + on) (20 + on + n)) ∧ ((w5.setCell ⟨g, i, none⟩ u).setCell ⟨g, j, none⟩ v).drew.cell? ⟨w.heap.size, 0, none⟩ = some (.int .u8 tos)) := fun i j u v =>
            ⟨blk_cell (blk_far (blk_far HS5.out.ptr HS5.out.ne (p := ⟨g, i, none⟩) u) HS5.out.ne (p := ⟨g, j, none⟩) v) 0, blk_cell (blk_far (blk_far HS5.out.box (Nat.ne_of_lt HS5.out.lt) (p := ⟨g, i, none⟩) u) (Nat.ne_of_lt HS5.out.lt) (p := ⟨g, j, none⟩) v) 0⟩
          have hq3 := or64 ((20 + (on : Int)) / 4) (by omega) (by omega)
          go_region_held3 (fun w' => w'.cell? ⟨g + 1, 0, none⟩ = some (.slice (some ⟨g, 0, none⟩) (20 + on) (20 + on + n)) ∧ w'.cell? ⟨w.heap.size, 0, none⟩ = some (.int .u8 tos)) (first | (with_reducible exact ⟨c8, c0⟩) | (with_reducible exact HK0.out) | (with_reducible exact HK.out _ _) | (with_reducible exact HK2.out _ _ _ _)) (fail)
          have HS6 : Hid (WrS w ((w5.setCell ⟨g, 0, none⟩ (.int .u8 (64 + (20 + (on : Int)) / 4))).setCell ⟨g, 1, none⟩ (.int .u8 tos)).drew g (g + 1) (ip4c tos id df ttl proto s d (.slice O on co)) (20 + on) (20 + on + n) (wrA on tos)) := HS5.out.two 0 1 _ _
          clear HS5 c8 c0 d0 z0 d1 z1 HK HK0 HK2 hq0 hq1 hq2 hq3
          generalize ((w5.setCell ⟨g, 0, none⟩ (.int .u8 (64 + (20 + (on : Int)) / 4))).setCell ⟨g, 1, none⟩ (.int .u8 tos)).drew = w6 at *
          have hT0 : (0 : Int) ≤ 20 + (on : Int) + (n : Int) := by omega
          have hT1 : 20 + (on : Int) + (n : Int) ≤ 65535 := by omega
          have hTw : IntKind.u16.wrap (20 + (on : Int) + (n : Int)) = 20 + (on : Int) + (n : Int) := by
            simp only [IntKind.wrap_u16]
            omega
          obtain ⟨hid0, hid1⟩ := h2
          go_wp2_with fail
          have HL7 : Hid (Calls Try.prog 30 #[.int .i64 2, .int .u16 (20 + (on : Int) + (n : Int)), .pointer (some ⟨g + 1, 0, none⟩)] w6 fun e w' => e = .returned (.tuple #[]) ∧ w' = ((w6.setCell ⟨g, 2, none⟩ (.int .u8 ((20 + (on : Int) + (n : Int)) / 256))).setCell ⟨g, 3, none⟩ (.int .u8 ((20 + (on : Int) + (n : Int)) % 256))).drew) := lay_any w6 (g + 1) g (20 + on) (20 + on + n) 2 (20 + (on : Int) + (n : Int)) (wrA on tos) (w.heap.size + 1) 26 5 HS6.out.ptr HS6.out.own (by omega) (by omega) (by omega) (by omega) (by omega)
          have HS7 : Hid (WrS w ((w6.setCell ⟨g, 2, none⟩ (.int .u8 ((20 + (on : Int) + (n : Int)) / 256))).setCell ⟨g, 3, none⟩ (.int .u8 ((20 + (on : Int) + (n : Int)) % 256))).drew g (g + 1) (ip4c tos id df ttl proto s d (.slice O on co)) (20 + on) (20 + on + n) (upd (upd (wrA on tos) 2 ((20 + (on : Int) + (n : Int)) / 256)) 3 ((20 + (on : Int) + (n : Int)) % 256))) := HS6.out.two 2 3 _ _
          go_at_call 30
          refine HL7.out.mono ?_
          rintro e w7 ⟨rfl, hew7⟩
          rw [← hew7] at HS7
          clear hew7 HL7 HS6
          have c1 : w7.cell? ⟨w.heap.size, 1, none⟩ = some (.int .u16 id) := blk_cell HS7.out.box 1
          go_wp2_with fail
          clear c1
          have HL8 : Hid (Calls Try.prog 30 #[.int .i64 4, .int .u16 id, .pointer (some ⟨g + 1, 0, none⟩)] w7 fun e w' => e = .returned (.tuple #[]) ∧ w' = ((w7.setCell ⟨g, 4, none⟩ (.int .u8 (id / 256))).setCell ⟨g, 5, none⟩ (.int .u8 (id % 256))).drew) := lay_any w7 (g + 1) g (20 + on) (20 + on + n) 4 id (upd (upd (wrA on tos) 2 ((20 + (on : Int) + (n : Int)) / 256)) 3 ((20 + (on : Int) + (n : Int)) % 256)) (w.heap.size + 1) 26 5 HS7.out.ptr HS7.out.own (by omega) (by omega) (by omega) (by omega) (by omega)
          have HS8 : Hid (WrS w ((w7.setCell ⟨g, 4, none⟩ (.int .u8 (id / 256))).setCell ⟨g, 5, none⟩ (.int .u8 (id % 256))).drew g (g + 1) (ip4c tos id df ttl proto s d (.slice O on co)) (20 + on) (20 + on + n) (wrB on n tos id)) := HS7.out.two 4 5 _ _
          go_at_call 30
          refine HL8.out.mono ?_
          rintro e w8 ⟨rfl, hew8⟩
          rw [← hew8] at HS8
          clear hew8 HL8 HS7
          have c2 : w8.cell? ⟨w.heap.size, 2, none⟩ = some (.bool df) := blk_cell HS8.out.box 2
          go_upto_if 64 with fail
          go_cut [] from 64 to 67 (fun wx => WrS w wx g (g + 1) (ip4c tos id df ttl proto s d (.slice O on co)) (20 + on) (20 + on + n) (wrC on n tos id df))
          case first =>
            clear c2
            cases df
            · go_wp2_with fail
              go_meet
              exact HS8.out.same fun k _ => wrC_false on n tos id k
            · go_wp2_with fail
              have HL9 : Hid (Calls Try.prog 30 #[.int .i64 6, .int .u16 16384, .pointer (some ⟨g + 1, 0, none⟩)] w8 fun e w' => e = .returned (.tuple #[]) ∧ w' = ((w8.setCell ⟨g, 6, none⟩ (.int .u8 (16384 / 256))).setCell ⟨g, 7, none⟩ (.int .u8 (16384 % 256))).drew) := lay_any w8 (g + 1) g (20 + on) (20 + on + n) 6 16384 (wrB on n tos id) (w.heap.size + 1) 26 5 HS8.out.ptr HS8.out.own (by omega) (by omega) (by omega) (by omega) (by omega)
              have HS9 : Hid (WrS w ((w8.setCell ⟨g, 6, none⟩ (.int .u8 (16384 / 256))).setCell ⟨g, 7, none⟩ (.int .u8 (16384 % 256))).drew g (g + 1) (ip4c tos id true ttl proto s d (.slice O on co)) (20 + on) (20 + on + n) (wrC on n tos id true)) := HS8.out.two 6 7 _ _
              go_at_call 30
              refine HL9.out.mono ?_
              rintro e w9 ⟨rfl, hew9⟩
              rw [← hew9] at HS9
              clear hew9 HL9 HS8
              go_wp2_with fail
              go_meet
              exact HS9.out
          case rest =>
          have HS10 := Lib.hid hcut
          clear hcut
          have c8 := HS10.out.var
          have e3 : wc.cell? ⟨w.heap.size, 3, none⟩ = some (.int .u8 ttl) := blk_cell HS10.out.box 3
          have e4 : wc.cell? ⟨w.heap.size, 4, none⟩ = some (.int .u8 proto) := blk_cell HS10.out.box 4
          obtain ⟨d8, z8⟩ := HS10.out.at_ 8 (by omega)
          obtain ⟨d9, z9⟩ := HS10.out.at_ 9 (by omega)
          have i8' : (8 : Int) < 20 + (on : Int) := by omega
          have i9' : (9 : Int) < 20 + (on : Int) := by omega
          have HK0 : Hid (wc.drew.cell? ⟨g + 1, 0, none⟩ = some (.slice (some ⟨g, 0, none⟩) (20 + on) (20 + on + n)) ∧ wc.drew.cell? ⟨w.heap.size, 3, none⟩ = some (.int .u8 ttl) ∧ wc.drew.cell? ⟨w.heap.size, 4, none⟩ = some (.int .u8 proto)) := ⟨c8, e3, e4⟩
          have HK1 : Hid (∀ (i : Nat) (v : Value), (wc.setCell ⟨g, i, none⟩ v).drew.cell? ⟨g + 1, 0, none⟩ = some (.slice (some ⟨g, 0, none⟩) (20 + on) (20 + on + n)) ∧ (wc.setCell ⟨g, i, none⟩ v).drew.cell? ⟨w.heap.size, 3, none⟩ = some (.int .u8 ttl) ∧ (wc.setCell ⟨g, i, none⟩ v).drew.cell? ⟨w.heap.size, 4, none⟩ = some (.int .u8 proto)) := fun i v =>
            ⟨blk_cell (blk_far HS10.out.ptr HS10.out.ne (p := ⟨g, i, none⟩) v) 0, blk_cell (blk_far HS10.out.box (Nat.ne_of_lt HS10.out.lt) (p := ⟨g, i, none⟩) v) 3, blk_cell (blk_far HS10.out.box (Nat.ne_of_lt HS10.out.lt) (p := ⟨g, i, none⟩) v) 4⟩
          have HK2 : Hid (∀ (i j : Nat) (u v : Value), ((wc.setCell ⟨g, i, none⟩ u).setCell ⟨g, j, none⟩ v).drew.cell? ⟨g + 1, 0, none⟩ = some (.slice (some ⟨g, 0, none⟩) (20 + on) (20 + on + n)) ∧ ((wc.setCell ⟨g, i, none⟩ u).setCell ⟨g, j, none⟩ v).drew.cell? ⟨w.heap.size, 3, none⟩ = some (.int .u8 ttl) ∧ ((wc.setCell ⟨g, i, none⟩ u).setCell ⟨g, j, none⟩ v).drew.cell? ⟨w.heap.size, 4, none⟩ = some (.int .u8 proto)) := fun i j u v =>
            ⟨blk_cell (blk_far (blk_far HS10.out.ptr HS10.out.ne (p := ⟨g, i, none⟩) u) HS10.out.ne (p := ⟨g, j, none⟩) v) 0, blk_cell (blk_far (blk_far HS10.out.box (Nat.ne_of_lt HS10.out.lt) (p := ⟨g, i, none⟩) u) (Nat.ne_of_lt HS10.out.lt) (p := ⟨g, j, none⟩) v) 3, blk_cell (blk_far (blk_far HS10.out.box (Nat.ne_of_lt HS10.out.lt) (p := ⟨g, i, none⟩) u) (Nat.ne_of_lt HS10.out.lt) (p := ⟨g, j, none⟩) v) 4⟩
          go_upto_region 16 with fail
          go_region_held3 (fun w' => w'.cell? ⟨g + 1, 0, none⟩ = some (.slice (some ⟨g, 0, none⟩) (20 + on) (20 + on + n)) ∧ w'.cell? ⟨w.heap.size, 3, none⟩ = some (.int .u8 ttl) ∧ w'.cell? ⟨w.heap.size, 4, none⟩ = some (.int .u8 proto)) (first | (with_reducible exact ⟨c8, e3, e4⟩) | (with_reducible exact HK0.out) | (with_reducible exact HK1.out _ _) | (with_reducible exact HK2.out _ _ _ _)) (fail)
          have HS11 : Hid (WrS w ((wc.setCell ⟨g, 8, none⟩ (.int .u8 ttl)).setCell ⟨g, 9, none⟩ (.int .u8 proto)).drew g (g + 1) (ip4c tos id df ttl proto s d (.slice O on co)) (20 + on) (20 + on + n) (upd (upd (wrC on n tos id df) 8 ttl) 9 proto)) := HS10.out.two 8 9 _ _
          clear HS10 c8 e3 e4 d8 z8 d9 z9 HK0 HK1 HK2
          generalize ((wc.setCell ⟨g, 8, none⟩ (.int .u8 ttl)).setCell ⟨g, 9, none⟩ (.int .u8 proto)).drew = w11 at *
          have c12 : ¬ 20 + on + n = 12 := by omega
          have c16 : ¬ 20 + on + n = 16 := by omega
          have i12' : (12 : Int) ≤ 20 + (on : Int) := by omega
          have i16' : (16 : Int) ≤ 20 + (on : Int) := by omega
          have i20' : (20 : Int) ≤ 20 + (on : Int) := by omega
          have c8 := HS11.out.var
          have HK0 : Hid (w11.drew.cell? ⟨g + 1, 0, none⟩ = some (.slice (some ⟨g, 0, none⟩) (20 + on) (20 + on + n))) := c8
          have HK1 : Hid (∀ vs, (w11.drew.setCells g 12 vs).cell? ⟨g + 1, 0, none⟩ = some (.slice (some ⟨g, 0, none⟩) (20 + on) (20 + on + n))) := fun vs => blk_cell ((other_setCells HS11.out.ne vs 12 w11.drew).trans HS11.out.ptr) 0
          go_upto_region 17 with fail
          go_region_held3 (fun w' => w'.cell? ⟨g + 1, 0, none⟩ = some (.slice (some ⟨g, 0, none⟩) (20 + on) (20 + on + n))) (first | (with_reducible exact HK0.out) | (with_reducible exact HK1.out _))
            (first
            | (refine step_copy_rd rfl (.tmp 76) (.tmp 78) _ rfl (w.heap.size + 1) 5 Try.underlying26 (by kernel_rfl) HS11.out.own.drew rfl 12 (fun _ => rfl) (by omega) rfl (blk_rd HS11.out.drew.box (lt_heap HS11.out.drew.box) fun k hk => ip4_src k (by omega)) 4 (by omega) ?_
               intro hoc
               have HO12 := Lib.hid hoc
               clear hoc))
          have HS12 : Hid (WrS w (w11.drew.setCells g 12 ((nums 4 s).map (Value.int .u8))) g (g + 1) (ip4c tos id df ttl proto s d (.slice O on co)) (20 + on) (20 + on + n) (over 12 4 s (upd (upd (wrC on n tos id df) 8 ttl) 9 proto))) := HS11.out.drew.cells 12 _ HO12.out
          clear HS11 HO12 HK0 HK1 c8
          generalize w11.drew.setCells g 12 ((nums 4 s).map (Value.int .u8)) = w12 at *
          have c8 := HS12.out.var
          have HK0 : Hid (w12.drew.cell? ⟨g + 1, 0, none⟩ = some (.slice (some ⟨g, 0, none⟩) (20 + on) (20 + on + n))) := c8
          have HK1 : Hid (∀ vs, (w12.drew.setCells g 16 vs).cell? ⟨g + 1, 0, none⟩ = some (.slice (some ⟨g, 0, none⟩) (20 + on) (20 + on + n))) := fun vs => blk_cell ((other_setCells HS12.out.ne vs 16 w12.drew).trans HS12.out.ptr) 0
          go_upto_region 18 with fail
          go_region_held3 (fun w' => w'.cell? ⟨g + 1, 0, none⟩ = some (.slice (some ⟨g, 0, none⟩) (20 + on) (20 + on + n))) (first | (with_reducible exact HK0.out) | (with_reducible exact HK1.out _))
            (first
            | (refine step_copy_rd rfl (.tmp 81) (.tmp 83) _ rfl (w.heap.size + 1) 5 Try.underlying26 (by kernel_rfl) HS12.out.own.drew rfl 16 (fun _ => rfl) (by omega) rfl (blk_rd HS12.out.drew.box (lt_heap HS12.out.drew.box) fun k hk => ip4_dst k (by omega)) 4 (by omega) ?_
               intro hoc
               have HO13 := Lib.hid hoc
               clear hoc))
          have HS13 : Hid (WrS w (w12.drew.setCells g 16 ((nums 4 d).map (Value.int .u8))) g (g + 1) (ip4c tos id df ttl proto s d (.slice O on co)) (20 + on) (20 + on + n) (over 16 4 d (over 12 4 s (upd (upd (wrC on n tos id df) 8 ttl) 9 proto)))) := HS12.out.drew.cells 16 _ HO13.out
          clear HS12 HO13 HK0 HK1 c8
          generalize w12.drew.setCells g 16 ((nums 4 d).map (Value.int .u8)) = w13 at *
          have c8 := HS13.out.var
          obtain ⟨D20, hD20, hD20'⟩ := slice_from g 0 (20 + on) (20 + on + n) 20 (by omega) (by omega) (by omega)
          have hD20r : ∀ W, (Instr.sliceAt 26 (.slice (some ⟨g, 0, none⟩) (20 + on) (20 + on + n)) (some (.int .i64 20)) none none).run Try.prog W = .ok (.slice D20 (20 + on - 20) (20 + on + n - 20)) W := hD20
          have HD20 := Lib.hid hD20'
          clear hD20 hD20'
          have e37 : w13.cell? ⟨w.heap.size, 37, none⟩ = some (.slice O on co) := blk_cell HS13.out.box 37
          have HK0 : Hid (w13.drew.cell? ⟨g + 1, 0, none⟩ = some (.slice (some ⟨g, 0, none⟩) (20 + on) (20 + on + n)) ∧ w13.drew.cell? ⟨w.heap.size, 37, none⟩ = some (.slice O on co)) := ⟨c8, e37⟩
          have HK1 : Hid (∀ vs, (w13.drew.setCells g 20 vs).cell? ⟨g + 1, 0, none⟩ = some (.slice (some ⟨g, 0, none⟩) (20 + on) (20 + on + n)) ∧ (w13.drew.setCells g 20 vs).cell? ⟨w.heap.size, 37, none⟩ = some (.slice O on co)) := fun vs => ⟨blk_cell ((other_setCells HS13.out.ne vs 20 w13.drew).trans HS13.out.ptr) 0, blk_cell ((other_setCells (Nat.ne_of_lt HS13.out.lt) vs 20 w13.drew).trans HS13.out.box) 37⟩
          go_upto_region 19 with fail
          go_region_held3 (fun w' => w'.cell? ⟨g + 1, 0, none⟩ = some (.slice (some ⟨g, 0, none⟩) (20 + on) (20 + on + n)) ∧ w'.cell? ⟨w.heap.size, 37, none⟩ = some (.slice O on co)) (first | (with_reducible exact HK0.out) | (with_reducible exact HK1.out _))
            (first
            | (refine step_copy_rd rfl (.tmp 86) (.tmp 88) _ rfl (w.heap.size + 1) 5 Try.underlying26 (by kernel_rfl) HS13.out.own.drew rfl 20 (fun h => (HD20.out (by omega)).trans (by rw [Nat.zero_add])) (by omega) rfl (HRO.out.keep HS13.out.drew.below) on (by omega) ?_
               intro hoc
               have HO14 := Lib.hid hoc
               clear hoc))
          have HS14 : Hid (WrS w (w13.drew.setCells g 20 ((nums on fo).map (Value.int .u8))) g (g + 1) (ip4c tos id df ttl proto s d (.slice O on co)) (20 + on) (20 + on + n) (hdr0 tos id df ttl proto s d on fo (20 + on + n))) := (HS13.out.drew.cells 20 _ HO14.out).same fun k hk => wrD_hdr on n tos id df ttl proto s d fo k hk
          clear HS13 HO14 HK0 HK1 c8 e37
          generalize w13.drew.setCells g 20 ((nums on fo).map (Value.int .u8)) = w14 at *
          have HBY : Hid (Byt (hdr0 tos id df ttl proto s d on fo (20 + on + n))) := hdr0_byt h1 ⟨hid0, hid1⟩ h3 h4 HS.out HD.out HFO.out hon40 (by omega)
          have HOF := Lib.hid (of_any (some ⟨g, 0, none⟩) (20 + on) (20 + on + n) _ HBY.out (by omega) (by omega) w14 HS14.out.own.rd)
          obtain ⟨C, hC⟩ : ∃ C, C = ofv (hdr0 tos id df ttl proto s d on fo (20 + on + n)) (20 + on) := ⟨_, rfl⟩
          rw [← hC] at HOF
          have hCb := ofv_bd HBY.out (20 + on)
          rw [← hC] at hCb
          obtain ⟨hC0, hC1⟩ := hCb
          have HCC := Lib.hid hC
          clear hC
          have c8 := HS14.out.var
          go_wp2_with fail
          go_at_call 31
          refine HOF.out.mono ?_
          rintro e w15 ⟨rfl, hb15⟩
          have HS15 := Lib.hid (HS14.out.step hb15)
          clear hb15 HS14 HOF c8
          go_wp2_with fail
          have HL16 : Hid (Calls Try.prog 30 #[.int .i64 10, .int .u16 C, .pointer (some ⟨g + 1, 0, none⟩)] w15 fun e w' => e = .returned (.tuple #[]) ∧ w' = ((w15.setCell ⟨g, 10, none⟩ (.int .u8 (C / 256))).setCell ⟨g, 11, none⟩ (.int .u8 (C % 256))).drew) := lay_any w15 (g + 1) g (20 + on) (20 + on + n) 10 C _ (w.heap.size + 1) 26 5 HS15.out.ptr HS15.out.own (by omega) (by omega) hC0 hC1 (by omega)
          have HS16 : Hid (WrS w ((w15.setCell ⟨g, 10, none⟩ (.int .u8 (C / 256))).setCell ⟨g, 11, none⟩ (.int .u8 (C % 256))).drew g (g + 1) (ip4c tos id df ttl proto s d (.slice O on co)) (20 + on) (20 + on + n) (hdr4 tos id df ttl proto s d on fo (20 + on + n))) := by
            have q := HS15.out.two 10 11 (C / 256) (C % 256)
            rw [HCC.out] at q ⊢
            exact q
          go_at_call 30
          refine HL16.out.mono ?_
          rintro e w16 ⟨rfl, he16⟩
          rw [← he16] at HS16
          clear he16 HL16 HS15
          have c8 := HS16.out.var
          go_wp2_with (first
            | (at_builtin
               refine wpList_append_rd rfl (.tmp 94) (.tmp 95) _ rfl (w.heap.size + 1) 5 i0 Try.underlying26 HI0.out HZ0.out HZ1.out HZ2.out rfl HS16.out.own rfl (HR.out.keep HS16.out.below) (by omega) (by have := HS16.out.lt; have := lt_heap HS16.out.box; omega) ?_
               intro A10 c10 w17 hown10 hg10 _
               have HO17 := Lib.hid hown10
               have HB17 : Hid (Below w.heap.size w w17) := HS16.out.below.grown hg10 HS16.out.below.size (fun k hk => Nat.le_of_succ_le (HS16.out.own.at_ k hk))
               clear hown10 hg10))
          go_ret2
          exact .inr (.inr (.inr ⟨rfl, rfl, by omega, A10, c10, rfl, HO17.out.le (Nat.le_succ _), HB17.out⟩))
  · have hE0' : (E != 0) = true := by simpa using hE0
    go_wp2_with fail
    go_ret2
    exact .inl ⟨hE0, none, 0, rfl, Own.nil_ _ _ _ _, HB1.out⟩
end Go.Proofs.Ythjgecdnlpdcdaa
