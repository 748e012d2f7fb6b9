import Derived.Test.YtimcdnbfdkpffaaGreatGm14
import Derived.Test.YtimcdnbfdkpffaaGreatGm1
import Derived.Test.YtimcdnbfdkpffaaGreatGm2
import Derived.Test.YtimcdnbfdkpffaaGreatGm5
import Derived.Test.YtimcdnbfdkpffaaGreatGm3
import Derived.Shelf.Lay
import Derived.Shelf.Strconv.Itoa0
import Derived.Ground.NamesProg
import Derived.Laws.Bits64
/- Stage 11: the document's wheel in memory; New, over, tick, Skip, Copy. -/
namespace Go.Proofs.YtimcdnbfdkpffaaGreat
set_option maxRecDepth 100000
open Go.RowKit Go.Shelf
/-- Rows of structs: the cells of a list's elements. -/
def rwc {α : Type} (sz : Nat) (enc : α → Array Value) (L : List α) (j : Nat) : Value := match L[j / sz]? with
  | some x => (enc x).getD (j % sz) undef
  | none => undef
theorem rwc_at {α : Type} {sz : Nat} {enc : α → Array Value} {L : List α} {k : Nat} {x : α} (hx : L[k]? = some x) {j : Nat} (hj : j < sz) : rwc sz enc L (k * sz + j) = (enc x).getD j undef := by
  have e1 : (k * sz + j) / sz = k := by
    rw [Nat.mul_comm, Nat.mul_add_div (by omega), Nat.div_eq_of_lt hj]
    rfl
  have e2 : (k * sz + j) % sz = j := by
    rw [Nat.mul_comm, Nat.mul_add_mod]
    exact Nat.mod_eq_of_lt hj
  unfold rwc
  rw [e1, e2, hx]
theorem rwc_snoc {α : Type} {sz : Nat} (hsz : 0 < sz) (enc : α → Array Value) (L : List α) (x : α) (j : Nat) (hj : j < (L.length + 1) * sz) : rwc sz enc (L ++ [x]) j = catV (L.length * sz) (rwc sz enc L) (fun j => (enc x).getD j undef) j := by
  unfold catV
  by_cases h : j < L.length * sz
  · rw [if_pos h]
    have hd : j / sz < L.length := (Nat.div_lt_iff_lt_mul hsz).2 h
    unfold rwc
    rw [List.getElem?_append_left hd]
  · rw [if_neg h]
    have e : j = L.length * sz + (j - L.length * sz) := by omega
    rw [Nat.add_mul, Nat.one_mul] at hj
    conv => lhs; rw [e]
    refine rwc_at ?_ (by omega)
    rw [List.getElem?_append_right (Nat.le_refl _), Nat.sub_self]
    rfl
/-- What fired, as it is told. -/
def fev (t : Tm) : Array Value := #[.int .i64 (t.i : Int), .int .u64 (t.k : Int), .int .u64 (t.what : Int)]
theorem fev_one (t : Tm) (j : Nat) (hj : j < 3) : ((fev t).getD j undef).oneCell' = true := by
  rcases (show j = 0 ∨ j = 1 ∨ j = 2 by omega) with rfl | rfl | rfl <;> rfl
section
variable {w : World} {q r : Nat} {B : Option Addr} {d : Nat} {A : Ar} {L : List Tm} {now : Nat} {G : Nat → Prop} {w' : World}
end
end Go.Proofs.YtimcdnbfdkpffaaGreat
/- Stage 16: what the laws ask of the program's flows. -/
namespace Go.Proofs.YtimcdnbfdkpffaaGreat
set_option maxRecDepth 100000
open Go.RowKit Go.Shelf
def Pn.c (p : Pn) : Array Value := #[.string p.v, .string p.n, .int .u64 (p.life : Int)]
/-- A flow's cells. -/
def Fr.c (r : Fr) : Array Value := r.t.c ++ #[.string r.p.v, .string r.p.n, .int .u64 (r.p.life : Int), .int .u8 (r.st : Int), .int .u64 (r.due : Int)]
def flz : Array Value := (tupc false 0 (fun _ => 0) (fun _ => 0) 0 0) ++ #[.string ByteArray.empty, .string ByteArray.empty, .int .u64 0, .int .u8 0, .int .u64 0]
def tmoc (a b c d : Nat) : Value := .agg #[.int .u32 (a : Int), .int .u32 (b : Int), .int .u32 (c : Int), .int .u32 (d : Int)]
namespace Fl
def getV (s : Fl) (t : Tp) : Value := match s.get t with
  | some r => .agg r.c
  | none => .agg flz
/-- May there be flows so? -/
def mayF (c m : Int) (a b x d : Nat) : Bool := decide (1 ≤ c) && decide (c ≤ 65536) && growI m && fsT a b x d
/-- Numbers that are far from their ends. -/
structure Fit (s : Fl) (m : Nat) : Prop where
  ok : s.Ok
  w : s.w.Fit m
  now : s.w.now ≤ m
  o1 : s.o1 < 4294967296 ∧ s.o2 < 4294967296 ∧ s.o3 < 4294967296 ∧ s.o4 < 4294967296
theorem Fit.more {s : Fl} {m m' : Nat} (h : s.Fit m) (hm : m ≤ m') (h9 : m' ≤ 4611686018427387904) : s.Fit m' := ⟨h.ok, h.w.more hm h9, Nat.le_trans h.now hm, h.o1⟩
theorem cancel_now (w : Wh) (i : Int) (k : Nat) : (w.cancel i k).now = w.now := by
  unfold Wh.cancel
  split <;> rfl
theorem fit_pin {s : Fl} {m : Nat} (h : s.Fit m) (hm : m < 4611686018427387904) {t : Tp} (ht : t.Ok) (p : Pn) (st : Nat) : (s.pin t p st).Fit (m + 1) := by
  refine ⟨ok_pin h.ok ht p st, ?_, ?_, ?_⟩
  · unfold pin
    have hx := h.w.more (Nat.le_succ m) hm
    by_cases hs : fsM st = true
    · rw [if_pos hs]
      obtain ⟨o1, o2, o3, o4⟩ := h.ok.over hs
      have ha := Wh.fit_arm h.w hm o3 0
      cases s.get t with
      | some r => exact hx
      | none =>
        cases s.w.a.which with
        | none => exact hx
        | some i =>
          dsimp only
          split
          · exact ha
          · exact Wh.fit_cancel ha _ _
    · rw [if_neg hs]
      exact hx
  · have h1 := h.now
    have key : (s.pin t p st).w.now = s.w.now := by
      unfold pin
      by_cases hs : fsM st = true
      · rw [if_pos hs]
        obtain ⟨_, _, a3⟩ := h.ok.arm hs
        cases s.get t with
        | some r => rfl
        | none =>
          cases hw : s.w.a.which with
          | none => rfl
          | some i =>
            rw [hw] at a3
            dsimp only
            split
            · show (s.w.arm (s.dueN st) 0).now = _
              rw [a3]
            · show ((s.w.arm (s.dueN st) 0).cancel _ _).now = _
              rw [cancel_now, a3]
      · rw [if_neg hs]
    omega
  · unfold pin
    split
    · split
      · exact h.o1
      · split
        · exact h.o1
        · split <;> exact h.o1
    · exact h.o1
theorem fit_tou {s : Fl} {m : Nat} (h : s.Fit m) (hm : m < 4611686018427387904) {t : Tp} (ht : t.Ok) (st : Nat) : (s.tou t st).Fit (m + 1) := by
  refine ⟨ok_tou h.ok ht st, ?_, ?_, ?_⟩
  · unfold tou
    have hx := h.w.more (Nat.le_succ m) hm
    by_cases hs : fsM st = true
    · rw [if_pos hs]
      obtain ⟨o1, o2, o3, o4⟩ := h.ok.over hs
      cases s.get t with
      | none => exact hx
      | some r => exact Wh.fit_again h.w hm _ _ o3
    · rw [if_neg hs]
      exact hx
  · have h1 := h.now
    have key : (s.tou t st).w.now = s.w.now := by
      unfold tou
      by_cases hs : fsM st = true
      · rw [if_pos hs]
        cases hg : s.get t with
        | none => rfl
        | some r =>
          obtain ⟨hr, hrt⟩ := get_some h.ok ht hg
          obtain ⟨u, hu, u1, u2, e1, e2⟩ := again_eq h.ok hr hs
          show (s.w.again (r.i : Int) r.k (s.dueN st)).now = _
          rw [e1]
      · rw [if_neg hs]
    omega
  · unfold tou
    split
    · split <;> exact h.o1
    · exact h.o1
theorem fit_endd {s : Fl} {m : Nat} (h : s.Fit m) {t : Tp} (ht : t.Ok) : (s.endd t).Fit m := by
  refine ⟨ok_endd h.ok ht, ?_, ?_, ?_⟩
  · unfold endd
    cases s.get t with
    | none => exact h.w
    | some r => exact Wh.fit_cancel h.w _ _
  · have h1 := h.now
    have key : (s.endd t).w.now = s.w.now := by
      unfold endd
      cases hg : s.get t with
      | none => rfl
      | some r =>
        exact cancel_now ..
    omega
  · unfold endd
    split <;> exact h.o1
theorem fit_tick {s : Fl} {m : Nat} (h : s.Fit m) (hm : m < 4611686018427387904) : s.tick.Fit (m + 1) := by
  have h1 := h.now
  refine ⟨ok_tick h.ok (by omega), (Wh.fit_tick h.w).more (Nat.le_succ m) hm, ?_, h.o1⟩
  obtain ⟨_, _, h3, _, _⟩ := told_facts h.ok
  show s.w.tick.now ≤ m + 1
  rw [h3]
  show s.w.now + 1 ≤ m + 1
  omega
theorem fit_mov {s : Fl} {m : Nat} (h : s.Fit m) (n : Nat) : (s.mov n).Fit m := ⟨ok_mov h.ok n, h.w, h.now, h.o1⟩
theorem fit_new {c m a b x d : Nat} (hc : c ≤ 256) (h : 16 ≤ m) (h' : m ≤ 262144) (ho : fsT a b x d = true) (h9 : a < 4294967296 ∧ b < 4294967296 ∧ x < 4294967296 ∧ d < 4294967296) : (new c m a b x d).Fit 0 := ⟨ok_new hc h h' ho, Wh.fit_new (by omega), Nat.zero_le _, h9⟩
end Fl
/-- What the laws ask of the program's flows: PF w p s F: at p stands what is s, in the blocks of F; g tells what All tells. -/
structure FloP (PF : World → Nat → Fl → (Nat → Prop) → Prop) (g : Nat) : Prop where
  foot : FootG PF
  eg : ∀ args w, (callFunc g args).run Tryz.prog w = .ok (.enter g args) w
  new_no : ∀ (c m : Int) (a b x d : Nat) (w : World), a < 4294967296 → b < 4294967296 → x < 4294967296 → d < 4294967296 → Fl.mayF c m a b x d = false → Calls Tryz.prog 8 #[.int .i64 c, .int .i64 m, tmoc a b x d] w (ret (.tuple #[.pointer none, .int .i64 2]) w)
  new : ∀ (c m a b x d : Nat) (w : World), a < 4294967296 → b < 4294967296 → x < 4294967296 → d < 4294967296 → Fl.mayF (c : Int) (m : Int) a b x d = true → Calls Tryz.prog 8 #[.int .i64 (c : Int), .int .i64 (m : Int), tmoc a b x d] w fun e w' => ∃ p F, e = .returned (.tuple #[.pointer (some ⟨p, 0, none⟩), .int .i64 0]) ∧ PF w' p (Fl.new c m a b x d) F ∧ (∀ k, F k → w.heap.size ≤ k) ∧ Below w.heap.size w w'
  pin : ∀ {w : World} {p : Nat} {s : Fl} {F : Nat → Prop} {m : Nat}, PF w p s F → s.Fit m → m < 4611686018427387904 → ∀ (t : Tp) (q : Pn) (st : Nat), t.Ok → q.life < 18446744073709551616 → st < 256 → Calls Tryz.prog 16 #[.pointer (some ⟨p, 0, none⟩), .agg t.c, .agg q.c, .int .u8 (st : Int)] w fun e w' => e = .returned (.int .i64 (s.pinE t st)) ∧ ∃ F', PF w' p (s.pin t q st) F' ∧ ExtG F F' w w'
  touch : ∀ {w : World} {p : Nat} {s : Fl} {F : Nat → Prop} {m : Nat}, PF w p s F → s.Fit m → m < 4611686018427387904 → ∀ (t : Tp) (st : Nat), t.Ok → st < 256 → Calls Tryz.prog 21 #[.pointer (some ⟨p, 0, none⟩), .agg t.c, .int .u8 (st : Int)] w fun e w' => e = .returned (.int .i64 (s.touE t st)) ∧ ∃ F', PF w' p (s.tou t st) F' ∧ ExtG F F' w w'
  end_ : ∀ {w : World} {p : Nat} {s : Fl} {F : Nat → Prop} {m : Nat}, PF w p s F → s.Fit m → ∀ t : Tp, t.Ok → Calls Tryz.prog 13 #[.pointer (some ⟨p, 0, none⟩), .agg t.c] w fun e w' => e = .returned (.int .i64 (s.endE t)) ∧ ∃ F', PF w' p (s.endd t) F' ∧ ExtG F F' w w'
  get : ∀ {w : World} {p : Nat} {s : Fl} {F : Nat → Prop} {m : Nat}, PF w p s F → s.Fit m → ∀ t : Tp, t.Ok → Calls Tryz.prog 20 #[.pointer (some ⟨p, 0, none⟩), .agg t.c] w (ret (.tuple #[s.getV t, .bool (s.get t).isSome]) w)
  tick : ∀ {w : World} {p : Nat} {s : Fl} {F : Nat → Prop} {m : Nat}, PF w p s F → s.Fit m → m < 4611686018427387904 → Calls Tryz.prog 14 #[.pointer (some ⟨p, 0, none⟩)] w fun e w' => ∃ E dE, e = .returned (.tuple #[.slice E s.out.length dE, .int .i64 0]) ∧ OwnC w' w.heap.size 59 41 E s.out.length dE (rwc 41 Fr.c s.out) ∧ ∃ F', PF w' p s.tick F' ∧ ExtG F F' w w' ∧ ∀ k, E.map (·.block) = some k → ¬ F' k
  move : ∀ {w : World} {p : Nat} {s : Fl} {F : Nat → Prop} {m : Nat}, PF w p s F → s.Fit m → ∀ n : Int, n < 9223372036854775808 → Calls Tryz.prog 18 #[.pointer (some ⟨p, 0, none⟩), .int .i64 n] w fun e w' => e = .returned (.int .i64 (Fl.mvN n.toNat s.g : Int)) ∧ ∃ F', PF w' p (s.mov n.toNat) F' ∧ ExtG F F' w w'
  left : ∀ {w : World} {p : Nat} {s : Fl} {F : Nat → Prop} {m : Nat}, PF w p s F → s.Fit m → Calls Tryz.prog 19 #[.pointer (some ⟨p, 0, none⟩)] w (ret (.int .i64 (s.g.left : Int)) w)
end Go.Proofs.YtimcdnbfdkpffaaGreat
/- Stage 11: the landed lay, begin, end. -/
namespace Go.Proofs.YtimcdnbfdkpffaaGreat
set_option maxRecDepth 100000
open Go.RowKit Go.Shelf
shelf_lay Lays.n129 Nm 129 at Tryz as Tryz.bitsLen64
theorem plen64 (x : Nat) (hx : x < 18446744073709551616) (w : World) : Calls Tryz.prog 169 #[.int .u64 (x : Int)] w fun e w' => e = .returned (.int .i64 (Lib.bitLen x : Int)) ∧ w' = w := by
  have h := Any.bits_Len64 Tryz.bitsLen64 (x : Int) w (by omega) (by omega)
  rwa [Int.toNat_natCast] at h
set_option maxHeartbeats 1000000 in
theorem pwlay {w : World} {p ap z g c : Nat} {A : Ar} {S : Sl} {now tn : Nat} {ta tw tt : Nat → Nat} {F : Nat → Prop} (h : WX w p ap z g c A S now tn ta tw tt F) (hS : S.Fit) (i : Nat) (hi : i < A.has.length) (hta : ta i < 18446744073709551616) (hnow : now < 18446744073709551616) :
    Calls Tryz.prog 144 #[.pointer (some ⟨p, 0, none⟩), .int .i64 (i : Int)] w fun e w' => e = .returned (.tuple #[]) ∧ ∃ F', WX w' p ap z g c A (S.push (plc now (ta i) : Int) (i : Int)) now tn ta tw tt F' ∧ Ext F F' w w' := by
  have HFIT := Lib.hid hS
  have HX := Lib.hid h
  have x2 : w.cell? ⟨p, 2, none⟩ = some (.slice (some ⟨g, 0, none⟩) A.has.length c) := blk_cell h.blk 2
  have x3 : w.cell? ⟨p, 3, none⟩ = some (.int .u64 (now : Int)) := blk_cell h.blk 3
  have x1 : w.cell? ⟨p, 1, none⟩ = some (.pointer (some ⟨z, 0, none⟩)) := blk_cell h.blk 1
  have y0 := h.t0 hi
  have cap := h.cap9
  have hn := h.n
  have HPL : Hid (p < w.heap.size) := Lib.hid (h.old p h.mp)
  obtain ⟨n, hnn⟩ : ∃ n, n = A.has.length := ⟨_, rfl⟩
  rw [← hnn] at x2 hi cap hn
  clear hnn h hS
  have i0 : (0 : Int) ≤ (i : Int) := by omega
  have i1 : (i : Int) < (n : Int) := by omega
  have i2 : ((i : Int)).toNat = i := by omega
  obtain ⟨X, hX⟩ : ∃ X, X = ta i ^^^ now := ⟨_, rfl⟩
  have hXl : X < 18446744073709551616 := by rw [hX]; exact Nat.xor_lt_two_pow (n := 64) hta hnow
  have hxr : bits .xor .u64 (ta i : Int) (now : Int) = (X : Int) := by rw [hX]; exact bits_xor_u64_nat _ _ hta hnow
  obtain ⟨b, hb⟩ : ∃ b, b = (Lib.bitLen (X / 256) + 7) / 8 := ⟨_, rfl⟩
  obtain ⟨l, hl⟩ : ∃ l, l = lev now (ta i) := ⟨_, rfl⟩
  have hlb : l = min b 3 := by rw [hl, hb, hX]; rfl
  have hl3 : l ≤ 3 := by omega
  have hpl : plc now (ta i) = slt l (ta i) := by rw [hl]; rfl
  rw [hpl]
  have HL := Lib.hid fun W => plen64 (X / 256) (by omega) W
  rw [show ((X / 256 : Nat) : Int) = (X : Int) / 256 by omega] at HL
  have hL64 : Lib.bitLen (X / 256) ≤ 64 := Lib.bitLen_le _ 64 (by omega) (by omega)
  have HSL := Lib.hid fun W => pslot W l hl3 (ta i) hta
  clear hX hl hpl
  generalize Lib.bitLen (X / 256) = L at *
  have z1 : IntKind.i64.wrap ((L : Int) + 7) = (L : Int) + 7 := by rw [IntKind.wrap_i64]; omega
  have hmin : min (((L : Int) + 7) / 8) 3 = (l : Int) := by omega
  clear hlb hb hl3
  go_enter Tryz.func144, Tryz.ntmps144
  go_upto_region 2 with (first
    | (go_at_call 169
       refine (HL.out _).mono ?_
       rintro e u1 ⟨rfl, rfl⟩))
  refine wp_region_grow (C := fun W => Below u1.heap.size u1 W) 9 34 [val (.pointer (some ⟨p, 0, none⟩)), val (.pointer (some ⟨p, 0, none⟩)), val (.pointer (some ⟨p, 1, none⟩)), val (.pointer (some ⟨z, 0, none⟩)), val (.int .i64 (((L : Int) + 7) / 8)), val (.int .i64 (l : Int)), val (.int .u64 (ta i : Int)), val (.int .i64 (slt l (ta i) : Int)), val (.int .i64 (i : Int))] (by kernel_rfl) rfl (by kernel_rfl) rfl ⟨stb_val _, stb_val _, stb_val _, stb_val _, stb_val _, stb_val _, stb_val _, stb_val _, stb_val _, trivial⟩ (Below.refl _ _).drew ?_ ?_
  · refine each_cons ?_ ?_
    · intro a W hW hd
      have h0 : a.tmps[0]?.getD undef = .pointer (some ⟨p, 0, none⟩) := slot_eq (hd 0 (by decide))
      exact grows_value _ hW (by simp [execOp, Act.eval, h0]) rfl
    refine each_cons ?_ ?_
    · intro a W hW hd
      have h24 : a.tmps[24]?.getD undef = .pointer (some ⟨p, 0, none⟩) := slot_eq (hd 24 (by decide))
      refine grows_value _ hW (?_ : _ = _) rfl
      clear hd
      go_simp
    refine each_cons ?_ ?_
    · intro a W hW hd
      have h25 : a.tmps[25]?.getD undef = .pointer (some ⟨p, 0, none⟩) := slot_eq (hd 25 (by decide))
      refine grows_value _ hW (?_ : _ = _) rfl
      clear hd
      go_simp
    refine each_cons ?_ ?_
    · intro a W hW hd
      have h26 : a.tmps[26]?.getD undef = .pointer (some ⟨p, 1, none⟩) := slot_eq (hd 26 (by decide))
      have xx : W.cell? ⟨p, 1, none⟩ = some (.pointer (some ⟨z, 0, none⟩)) := (hW.cell (p := ⟨p, 1, none⟩) HPL.out).trans x1
      refine grows_value _ hW (?_ : _ = _) rfl
      clear hd
      go_simp
    refine each_cons ?_ ?_
    · intro a W hW hd
      have h5 : a.tmps[5]?.getD undef = .int .i64 (((L : Int) + 7) / 8) := slot_eq (hd 5 (by decide))
      exact grows_value _ hW (by simp [execOp, Act.eval, h5]) rfl
    refine each_cons ?_ ?_
    · intro a W hW hd
      have h28 : a.tmps[28]?.getD undef = .int .i64 (((L : Int) + 7) / 8) := slot_eq (hd 28 (by decide))
      refine grows_value _ hW (?_ : _ = _) rfl
      clear hd
      go_simp
      all_goals (first | exact hmin | omega)
    refine each_cons ?_ ?_
    · intro a W hW hd
      have h4 : a.tmps[4]?.getD undef = .int .u64 (ta i : Int) := slot_eq (hd 4 (by decide))
      exact grows_value _ hW (by simp [execOp, Act.eval, h4]) rfl
    refine each_cons ?_ ?_
    · intro a W hW hd
      have h29 : a.tmps[29]?.getD undef = .int .i64 (l : Int) := slot_eq (hd 29 (by decide))
      have h30 : a.tmps[30]?.getD undef = .int .u64 (ta i : Int) := slot_eq (hd 30 (by decide))
      refine grows_call (fn := 143) (args := #[.int .i64 (l : Int), .int .u64 (ta i : Int)]) (by clear hd; go_simp) ?_
      refine (HSL.out W).mono ?_
      rintro e W' ⟨rfl, hb⟩
      exact ⟨_, rfl, rfl, hb, hW.trans (hb.mono hW.size)⟩
    refine each_cons ?_ ?_
    · intro a W hW hd
      have h1 : a.tmps[1]?.getD undef = .int .i64 (i : Int) := slot_eq (hd 1 (by decide))
      exact grows_value _ hW (by simp [execOp, Act.eval, h1]) rfl
    exact each_nil
  · refine behind_val rfl ?_
    refine behind_val rfl ?_
    refine behind_val rfl ?_
    refine behind_val rfl ?_
    refine behind_val rfl ?_
    refine behind_val rfl ?_
    refine behind_val rfl ?_
    refine behind_val rfl ?_
    refine behind_val rfl ?_
    refine behind_nil fun W2 hCW2 hFW2 => ?_
    simp only [Act.put, List.setIfInBounds_toArray, List.set_cons_succ, List.set_cons_zero, List.drop_succ_cons, List.drop_zero]
    have HX2 := Lib.hid (HX.out.step hCW2)
    have HE2 := Lib.hid ((Ext.refl F u1).step hCW2)
    clear hCW2 hFW2 x1
    go_wp2_with fail
    go_at_call 170
    refine (HX2.out.slots fun Z => pa_push HFIT.out Z none (slt l (ta i) : Int) (i : Int)).mono ?_
    rintro e u3 ⟨rfl, F', hx3, he3⟩
    have HX3 := Lib.hid hx3
    have HE3 := Lib.hid (HE2.out.trans he3)
    clear hx3 he3
    go_wp2_with fail
    go_end0
    exact ⟨rfl, F', HX3.out, HE3.out⟩
set_option maxHeartbeats 1000000 in
theorem pwbegin {w : World} {p ap z g c : Nat} {A : Ar} {S : Sl} {now tn : Nat} {ta tw tt : Nat → Nat} {F : Nat → Prop} (h : WX w p ap z g c A S now tn ta tw tt F) (hS : S.Fit) (i : Nat) (hi : i < A.has.length) (at_ : Nat) (hat : at_ < 18446744073709551616) (hnow : now < 18446744073709551615) (htn : tn < 18446744073709551615) :
    Calls Tryz.prog 105 #[.pointer (some ⟨p, 0, none⟩), .int .i64 (i : Int), .int .u64 (at_ : Int)] w fun e w' => e = .returned (.tuple #[]) ∧ ∃ F', WX w' p ap z g c A (S.push (plc now (max at_ (now + 1)) : Int) (i : Int)) now (tn + 1) (updN ta i (max at_ (now + 1))) tw (updN tt i (tn + 1)) F' ∧ Ext F F' w w' := by
  have HFIT := Lib.hid hS
  have HX := Lib.hid h
  have x4 : w.cell? ⟨p, 4, none⟩ = some (.int .u64 (tn : Int)) := blk_cell h.blk 4
  have y4 := blk_free h.blk 4
  have hn := h.n
  have z1 : IntKind.u64.wrap ((tn : Int) + 1) = (tn : Int) + 1 := by rw [IntKind.wrap_u64]; omega
  have HX1 : Hid (WX (w.setCell ⟨p, 4, none⟩ (.int .u64 ((tn : Int) + 1))) p ap z g c A S now (tn + 1) ta tw tt F) := Lib.hid (h.setTurn (tn + 1))
  have HE1 : Hid (Ext F F w (w.setCell ⟨p, 4, none⟩ (.int .u64 ((tn : Int) + 1)))) := Lib.hid ((Ext.refl F w).setCell (p := ⟨p, 4, none⟩) h.mp _)
  obtain ⟨n, hnn⟩ : ∃ n, n = A.has.length := ⟨_, rfl⟩
  have HN := Lib.hid hnn
  rw [← hnn] at hi hn
  obtain ⟨m, hm⟩ : ∃ m, m = max at_ (now + 1) := ⟨_, rfl⟩
  rw [← hm]
  have hmx : max (at_ : Int) ((now : Int) + 1) = (m : Int) := by omega
  have HM : Hid (m < 18446744073709551616) := Lib.hid (by omega)
  clear hnn h hS hm
  have i0 : (0 : Int) ≤ (i : Int) := by omega
  have i1 : (i : Int) < (n : Int) := by omega
  have i2 : ((i : Int)).toNat = i := by omega
  go_enter Tryz.func105, Tryz.ntmps105
  go_upto_region 1 with fail
  clear x4 y4 z1 HX
  generalize w.setCell ⟨p, 4, none⟩ (.int .u64 ((tn : Int) + 1)) = u1 at *
  have x2 : u1.cell? ⟨p, 2, none⟩ = some (.slice (some ⟨g, 0, none⟩) n c) := by rw [HN.out]; exact blk_cell HX1.out.blk 2
  have cap := HX1.out.cap9
  rw [← HN.out] at cap
  go_upto_region 2 with fail
  have x3 : u1.cell? ⟨p, 3, none⟩ = some (.int .u64 (now : Int)) := blk_cell HX1.out.blk 3
  have z3 : IntKind.u64.wrap ((now : Int) + 1) = (now : Int) + 1 := by rw [IntKind.wrap_u64]; omega
  have y0 := HX1.out.t0 (j := i) (by rw [← HN.out]; exact hi)
  have f0 := HX1.out.lies.2 (i * 3)
  have HX2 := Lib.hid (HX1.out.setAt i m)
  have HE2 := Lib.hid (HE1.out.setCell (p := ⟨g, i * 3, none⟩) HX1.out.mg (.int .u64 (m : Int)))
  go_upto_region 3 with fail
  clear x2 x3 y0 f0 HX1 HE1 z3
  generalize u1.setCell ⟨g, i * 3, none⟩ (.int .u64 (m : Int)) = u2 at *
  have x4 : u2.cell? ⟨p, 4, none⟩ = some (.int .u64 ((tn : Int) + 1)) := blk_cell HX2.out.blk 4
  have y2 := HX2.out.t2 (j := i) (by rw [← HN.out]; exact hi)
  have f2 := HX2.out.lies.2 (i * 3 + 2)
  have HX3 : Hid (WX (u2.setCell ⟨g, i * 3 + 2, none⟩ (.int .u64 ((tn : Int) + 1))) p ap z g c A S now (tn + 1) (updN ta i m) tw (updN tt i (tn + 1)) F) := Lib.hid (HX2.out.setTt i (tn + 1))
  have HE3 := Lib.hid (HE2.out.setCell (p := ⟨g, i * 3 + 2, none⟩) HX2.out.mg (.int .u64 ((tn : Int) + 1)))
  go_upto_region 4 with fail
  clear x4 y2 f2 HX2 HE2
  generalize u2.setCell ⟨g, i * 3 + 2, none⟩ (.int .u64 ((tn : Int) + 1)) = u3 at *
  go_wp2_with fail
  go_at_call 144
  have hl := pwlay HX3.out HFIT.out i (by rw [← HN.out]; exact hi) (by rw [updN_same]; exact HM.out) (by omega)
  rw [updN_same] at hl
  refine hl.mono ?_
  rintro e u4 ⟨rfl, F', hx4, he4⟩
  have HX4 := Lib.hid hx4
  have HE4 := Lib.hid (HE3.out.trans he4)
  clear hx4 he4 hl
  go_wp2_with fail
  go_end0
  exact ⟨rfl, F', HX4.out, HE4.out⟩
set_option maxHeartbeats 1000000 in
theorem pwend {w : World} {p ap z g c : Nat} {A : Ar} {S : Sl} {now tn : Nat} {ta tw tt : Nat → Nat} {F : Nat → Prop} (h : WX w p ap z g c A S now tn ta tw tt F) (hA : A.Ok) (i k : Nat) (hl : A.live (i : Int) k = true) :
    Calls Tryz.prog 91 #[.pointer (some ⟨p, 0, none⟩), .agg #[.int .i64 (i : Int), .int .u64 (k : Int)]] w fun e w' => e = .returned (.tuple #[]) ∧ ∃ F', WX w' p ap z g c (A.gone i) S now tn (updN ta i 0) (updN tw i 0) (updN tt i 0) F' ∧ Ext F F' w w' := by
  have HOK := Lib.hid hA
  have HLV := Lib.hid hl
  have hi : i < A.has.length := by
    obtain ⟨h1, h2, h3⟩ := Ar.live_iff.1 hl
    rcases Nat.lt_or_ge i A.has.length with q | q
    · exact q
    · exact absurd (Ar.at_out q) (by rw [show i = ((i : Int)).toNat by omega, h3]; exact h2)
  have HX1 := Lib.hid (h.step (below_alloc w (.cells #[.int .i64 (i : Int), .int .u64 (k : Int)] 95)))
  have HE1 := Lib.hid ((Ext.refl F w).step (below_alloc w (.cells #[.int .i64 (i : Int), .int .u64 (k : Int)] 95)))
  have HR1 : Hid ((w.alloc (.cells #[.int .i64 (i : Int), .int .u64 (k : Int)] 95)).heap[w.heap.size]? = some (.cells #[.int .i64 (i : Int), .int .u64 (k : Int)] 95 (0, 0))) := Lib.hid (heap_alloc_new w _)
  obtain ⟨r, hr⟩ : ∃ r, r = w.heap.size := ⟨_, rfl⟩
  rw [← hr] at HR1
  have HGR : Hid (g ≠ r) := Lib.hid (by have := h.old g h.mg; omega)
  have hn := h.n
  clear h hA hl
  go_enter Tryz.func91, Tryz.ntmps91
  go_upto_region 1 with fail
  change Code.wp _ _ _ _ (w.alloc (.cells #[.int .i64 (i : Int), .int .u64 (k : Int)] 95))
  rw [← hr]
  clear hr
  generalize w.alloc (.cells #[.int .i64 (i : Int), .int .u64 (k : Int)] 95) = u1 at *
  obtain ⟨n, hnn⟩ : ∃ n, n = A.has.length := ⟨_, rfl⟩
  have x2 : u1.cell? ⟨p, 2, none⟩ = some (.slice (some ⟨g, 0, none⟩) n c) := by rw [hnn]; exact blk_cell HX1.out.blk 2
  have r0 : u1.cell? ⟨r, 0, none⟩ = some (.int .i64 (i : Int)) := blk_cell HR1.out 0
  have HPL : Hid (p < u1.heap.size) := Lib.hid (HX1.out.old p HX1.out.mp)
  have HRL : Hid (r < u1.heap.size) := Lib.hid (lt_heap HR1.out)
  have hbd : ∀ w, (Instr.build 161 #[]).run Tryz.prog w = .ok (.agg #[.int .u64 0, .int .u64 0, .int .u64 0]) w := fun w => by kernel_rfl
  have i0 : (0 : Int) ≤ (i : Int) := by omega
  have i1 : (i : Int) < (n : Int) := by omega
  have i2 : ((i : Int)).toNat = i := by omega
  have cap := HX1.out.cap9
  rw [← hnn] at cap
  clear hnn
  refine wp_region_grow (C := fun W => Below u1.heap.size u1 W) 8 18 [val (.pointer (some ⟨p, 0, none⟩)), val (.pointer (some ⟨p, 0, none⟩)), val (.pointer (some ⟨p, 2, none⟩)), val (.slice (some ⟨g, 0, none⟩) n c), val (.pointer (some ⟨r, 0, none⟩)), val (.int .i64 (i : Int)), val (.agg #[.int .u64 0, .int .u64 0, .int .u64 0]), val (.pointer (some ⟨g, i * 3, none⟩))] (by kernel_rfl) rfl (by kernel_rfl) rfl ⟨stb_val _, stb_val _, stb_val _, stb_val _, stb_val _, stb_val _, stb_val _, stb_val _, trivial⟩ (Below.refl _ _).drew ?_ ?_
  · refine each_cons ?_ ?_
    · intro a W hW hd
      have h0 : a.tmps[0]?.getD undef = .pointer (some ⟨p, 0, none⟩) := slot_eq (hd 0 (by decide))
      exact grows_value _ hW (by simp [execOp, Act.eval, h0]) rfl
    refine each_cons ?_ ?_
    · intro a W hW hd
      have h4 : a.tmps[4]?.getD undef = .pointer (some ⟨p, 0, none⟩) := slot_eq (hd 4 (by decide))
      refine grows_value _ hW (?_ : _ = _) rfl
      clear hd
      go_simp
    refine each_cons ?_ ?_
    · intro a W hW hd
      have h5 : a.tmps[5]?.getD undef = .pointer (some ⟨p, 0, none⟩) := slot_eq (hd 5 (by decide))
      refine grows_value _ hW (?_ : _ = _) rfl
      clear hd
      go_simp
    refine each_cons ?_ ?_
    · intro a W hW hd
      have h6 : a.tmps[6]?.getD undef = .pointer (some ⟨p, 2, none⟩) := slot_eq (hd 6 (by decide))
      have xx : W.cell? ⟨p, 2, none⟩ = some (.slice (some ⟨g, 0, none⟩) n c) := (hW.cell (p := ⟨p, 2, none⟩) HPL.out).trans x2
      refine grows_value _ hW (?_ : _ = _) rfl
      clear hd
      go_simp
    refine each_cons ?_ ?_
    · intro a W hW hd
      have h3 : a.tmps[3]?.getD undef = .pointer (some ⟨r, 0, none⟩) := slot_eq (hd 3 (by decide))
      refine grows_value _ hW (?_ : _ = _) rfl
      clear hd
      go_simp
    refine each_cons ?_ ?_
    · intro a W hW hd
      have h8 : a.tmps[8]?.getD undef = .pointer (some ⟨r, 0, none⟩) := slot_eq (hd 8 (by decide))
      have xx : W.cell? ⟨r, 0, none⟩ = some (.int .i64 (i : Int)) := (hW.cell (p := ⟨r, 0, none⟩) HRL.out).trans r0
      refine grows_value _ hW (?_ : _ = _) rfl
      clear hd
      go_simp
    refine each_cons ?_ ?_
    · intro a W hW hd
      refine grows_value _ hW (?_ : _ = _) rfl
      have hb := hbd W
      clear hd
      simp [execOp, Act.eval, hb]
    refine each_cons ?_ ?_
    · intro a W hW hd
      have h7 : a.tmps[7]?.getD undef = .slice (some ⟨g, 0, none⟩) n c := slot_eq (hd 7 (by decide))
      have h9 : a.tmps[9]?.getD undef = .int .i64 (i : Int) := slot_eq (hd 9 (by decide))
      refine grows_value _ hW (?_ : _ = _) rfl
      clear hd
      go_simp
    exact each_nil
  · refine behind_val rfl ?_
    refine behind_val rfl ?_
    refine behind_val rfl ?_
    refine behind_val rfl ?_
    refine behind_val rfl ?_
    refine behind_val rfl ?_
    refine behind_val rfl ?_
    refine behind_val rfl ?_
    refine behind_nil fun W2 hCW2 hFW2 => ?_
    simp only [Act.put, List.setIfInBounds_toArray, List.set_cons_succ, List.set_cons_zero, List.drop_succ_cons, List.drop_zero]
    clear hFW2 hbd x2 r0
    have HX2 := Lib.hid (HX1.out.step hCW2)
    have HE2 := Lib.hid (HE1.out.step hCW2)
    have HR2 : Hid (W2.heap[r]? = some (.cells #[.int .i64 (i : Int), .int .u64 (k : Int)] 95 (0, 0))) := Lib.hid ((hCW2.block _ HRL.out).trans HR1.out)
    clear hCW2
    go_upto_region 2 with (first
      | (refine wpList_store_mid rfl 161 (.tmp 11) (.tmp 10) rfl g (i * 3) #[.int .u64 0, .int .u64 0, .int .u64 0] rfl rfl (HX2.out.there hi) (by kernel_rfl) (by simp [Value.oneCell']) ?_))
    have HX3 := Lib.hid (HX2.out.setT i 0 0 0)
    have HE3 : Hid (Ext F F w (W2.setCells g (i * 3) [.int .u64 0, .int .u64 0, .int .u64 0])) := Lib.hid (HE2.out.setCells HX2.out.mg _ _)
    have HR3 : Hid ((W2.setCells g (i * 3) [.int .u64 0, .int .u64 0, .int .u64 0]).heap[r]? = some (.cells #[.int .i64 (i : Int), .int .u64 (k : Int)] 95 (0, 0))) := Lib.hid ((other_setCells HGR.out.symm _ _ _).trans HR2.out)
    have HX3 : Hid (WX (W2.setCells g (i * 3) [.int .u64 0, .int .u64 0, .int .u64 0]) p ap z g c A S now tn (updN ta i 0) (updN tw i 0) (updN tt i 0) F) := HX3
    try simp only [Act.put]
    generalize W2.setCells g (i * 3) [.int .u64 0, .int .u64 0, .int .u64 0] = u3 at *
    have x0 : u3.cell? ⟨p, 0, none⟩ = some (.pointer (some ⟨ap, 0, none⟩)) := blk_cell HX3.out.blk 0
    have HPL : Hid (p < u3.heap.size) := Lib.hid (HX3.out.old p HX3.out.mp)
    have r0 : u3.cell? ⟨r, 0, none⟩ = some (.int .i64 (i : Int)) := blk_cell HR3.out 0
    have r1 : u3.cell? ⟨r, 1, none⟩ = some (.int .u64 (k : Int)) := blk_cell HR3.out 1
    have HRL : Hid (r < u3.heap.size) := Lib.hid (lt_heap HR3.out)
    refine wp_region_grow (C := fun W => Below u3.heap.size u3 W) 5 18 [val (.pointer (some ⟨p, 0, none⟩)), val (.pointer (some ⟨p, 0, none⟩)), val (.pointer (some ⟨p, 0, none⟩)), val (.pointer (some ⟨ap, 0, none⟩)), val (.agg #[.int .i64 (i : Int), .int .u64 (k : Int)])] (by kernel_rfl) rfl (by kernel_rfl) rfl ⟨stb_val _, stb_val _, stb_val _, stb_val _, stb_val _, trivial⟩ (Below.refl _ _).drew ?_ ?_
    · refine each_cons ?_ ?_
      · intro a W hW hd
        have h0 : a.tmps[0]?.getD undef = .pointer (some ⟨p, 0, none⟩) := slot_eq (hd 0 (by decide))
        exact grows_value _ hW (by simp [execOp, Act.eval, h0]) rfl
      refine each_cons ?_ ?_
      · intro a W hW hd
        have h12 : a.tmps[12]?.getD undef = .pointer (some ⟨p, 0, none⟩) := slot_eq (hd 12 (by decide))
        refine grows_value _ hW (?_ : _ = _) rfl
        clear hd
        go_simp
      refine each_cons ?_ ?_
      · intro a W hW hd
        have h13 : a.tmps[13]?.getD undef = .pointer (some ⟨p, 0, none⟩) := slot_eq (hd 13 (by decide))
        refine grows_value _ hW (?_ : _ = _) rfl
        clear hd
        go_simp
      refine each_cons ?_ ?_
      · intro a W hW hd
        have h14 : a.tmps[14]?.getD undef = .pointer (some ⟨p, 0, none⟩) := slot_eq (hd 14 (by decide))
        have xx : W.cell? ⟨p, 0, none⟩ = some (.pointer (some ⟨ap, 0, none⟩)) := (hW.cell (p := ⟨p, 0, none⟩) HPL.out).trans x0
        refine grows_value _ hW (?_ : _ = _) rfl
        clear hd
        go_simp
      refine each_cons ?_ ?_
      · intro a W hW hd
        have h3 : a.tmps[3]?.getD undef = .pointer (some ⟨r, 0, none⟩) := slot_eq (hd 3 (by decide))
        have xx0 : W.cell? ⟨r, 0, none⟩ = some (.int .i64 (i : Int)) := (hW.cell (p := ⟨r, 0, none⟩) HRL.out).trans r0
        have xx1 : W.cell? ⟨r, 1, none⟩ = some (.int .u64 (k : Int)) := (hW.cell (p := ⟨r, 1, none⟩) HRL.out).trans r1
        refine grows_value _ hW (?_ : _ = _) rfl
        clear hd
        go_simp
      exact each_nil
    · refine behind_val rfl ?_
      refine behind_val rfl ?_
      refine behind_val rfl ?_
      refine behind_val rfl ?_
      refine behind_val rfl ?_
      refine behind_nil fun W4 hCW4 hFW4 => ?_
      simp only [Act.put, List.setIfInBounds_toArray, List.set_cons_succ, List.set_cons_zero, List.drop_succ_cons, List.drop_zero]
      clear hFW4 x0 r0 r1
      have HX4 := Lib.hid (HX3.out.step hCW4)
      have HE4 := Lib.hid (HE3.out.step hCW4)
      clear hCW4
      go_wp2_with fail
      go_at_call 139
      refine (HX4.out.arena (A' := A.gone i) (v := .int .i64 0) List.length_set fun Fa hA => ?_).mono ?_
      · have h9 := pArC.free hA HOK.out HX4.out.n (i : Int) k
        have e1 : A.fr (i : Int) k = A.gone i := by unfold Ar.fr; rw [if_pos HLV.out]; rfl
        have e2 : A.frE (i : Int) k = 0 := by unfold Ar.frE; rw [if_pos HLV.out]
        rw [e1, e2] at h9
        exact h9
      rintro e u5 ⟨rfl, F', hx5, he5⟩
      have HX5 := Lib.hid hx5
      have HE5 := Lib.hid (HE4.out.trans he5)
      clear hx5 he5
      go_wp2_with fail
      go_end0
      exact ⟨rfl, F', HX5.out, HE5.out⟩
end Go.Proofs.YtimcdnbfdkpffaaGreat
/- Stage 11: the landed empty. -/
namespace Go.Proofs.YtimcdnbfdkpffaaGreat
set_option maxRecDepth 100000
open Go.RowKit Go.Shelf
theorem Sl.fit_drop {S : Sl} (hS : S.Fit) {q : Nat} (hq : q < S.ls.length) (j : Nat) : (S.put q ((S.at_ q).drop j)).Fit :=
  ⟨Sl.ok_put hS.ok hq ((hS.ok.nodup q).sublist (List.drop_sublist ..)) (fun c h => hS.ok.low q c (List.mem_of_mem_drop h)) (fun c k h hk => hS.ok.one _ _ _ hk (List.mem_of_mem_drop h)), hS.m, by rw [Sl.put_len]; exact hS.n⟩
/-- A row of one's own, beside the wheel, turned. -/
theorem Ext.own {F F' : Nat → Prop} {w w' w'' : World} (h : Ext F F' w w') {row : Option Nat} (hg : w'.grownBy w'' row) (hlo : ∀ k, row = some k → w.heap.size ≤ k) : Ext F F' w w'' := by
  refine ⟨fun k hk => ?_, h.kept.trans (Kept.grownBy (R := fun k => row = some k) hg fun k e => e) fun k hk e => ?_⟩
  · rcases h.sub k hk with q | ⟨q1, q2⟩
    · exact .inl q
    · exact .inr ⟨q1, Nat.lt_of_lt_of_le q2 hg.size⟩
  · have := hlo k e
    omega
theorem WX.own {w : World} {p ap z g c : Nat} {A : Ar} {S : Sl} {now tn : Nat} {ta tw tt : Nat → Nat} {F : Nat → Prop} {w' : World} (h : WX w p ap z g c A S now tn ta tw tt F) {row : Option Nat} (hg : w.grownBy w' row) (hn : ∀ k, row = some k → ¬ F k) : WX w' p ap z g c A S now tn ta tw tt F :=
  h.keep (Kept.grownBy (R := fun k => row = some k) hg fun k e => e) fun k hF e => hn k e hF
set_option maxHeartbeats 1000000 in
theorem pwempty {w : World} {p ap z g c : Nat} {A : Ar} {S : Sl} {now tn : Nat} {ta tw tt : Nat → Nat} {F : Nat → Prop} (h : WX w p ap z g c A S now tn ta tw tt F) (hS : S.Fit) (hl : S.ls.length = 1024) (q : Nat) (hq : q < 1024) :
    Calls Tryz.prog 142 #[.pointer (some ⟨p, 0, none⟩), .int .i64 (q : Int)] w fun e w' => ∃ B d, e = .returned (.slice B (S.at_ q).length d) ∧ OwnC w' w.heap.size 3 1 B (S.at_ q).length d (fun k => .int .i64 ((S.at_ q).getD k 0 : Int)) ∧
      ∃ F', WX w' p ap z g c A (S.put q []) now tn ta tw tt F' ∧ Ext F F' w w' ∧ ∀ k, Value.ownBlock (.slice B (S.at_ q).length d) = some k → ¬ F' k := by
  obtain ⟨i0, hi0, hz0, hz1, hz2⟩ := info_parts Tryz.infoIN
  have HI0 := Lib.hid hi0
  have HZ0 := Lib.hid hz0
  have HZ1 := Lib.hid hz1
  have HZ2 := Lib.hid hz2
  clear hi0 hz0 hz1 hz2
  have hqs : q < S.ls.length := by omega
  have HFIT := Lib.hid fun j => Sl.fit_drop hS hqs j
  have HX := Lib.hid h
  have x1 : w.cell? ⟨p, 1, none⟩ = some (.pointer (some ⟨z, 0, none⟩)) := blk_cell h.blk 1
  have hlen : (S.at_ q).length ≤ 65536 := Nat.le_trans (Sl.at_length hS.ok q) hS.m
  have HLN := Lib.hid (h.slq fun Z Fz hZ => pa_len hS (q : Int) hZ)
  rw [Sl.of_in] at HLN
  have HS0 : Hid (S.put q ((S.at_ q).drop 0) = S) := Lib.hid (by rw [List.drop_zero]; exact Sl.put_at S hqs)
  have HSE : Hid (S.put q ((S.at_ q).drop (S.at_ q).length) = S.put q []) := Lib.hid (by rw [List.drop_length])
  have HPOP : Hid (∀ (j x : Nat), (S.at_ q)[j]? = some x → (S.put q ((S.at_ q).drop j)).popE (q : Int) = #[.int .i64 (x : Int), .bool true] ∧ (S.put q ((S.at_ q).drop j)).pop (q : Int) = S.put q ((S.at_ q).drop (j + 1))) := Lib.hid fun j x hx => by
    obtain ⟨hj, e⟩ := List.getElem?_eq_some_iff.1 hx
    have hd : (S.at_ q).drop j = x :: (S.at_ q).drop (j + 1) := by rw [List.drop_eq_getElem_cons hj, e]
    have ha : (S.put q ((S.at_ q).drop j)).at_ q = x :: (S.at_ q).drop (j + 1) := by rw [Sl.at_put hqs, if_pos rfl, hd]
    refine ⟨?_, by rw [Sl.pop_eq ha, Sl.put_put']⟩
    unfold Sl.popE
    rw [Sl.of_in, ha]
  clear h hS hl hqs
  obtain ⟨T, hT⟩ : ∃ T : Nat → Sl, ∀ j, T j = S.put q ((S.at_ q).drop j) := ⟨_, fun _ => rfl⟩
  have HTE : Hid (T (S.at_ q).length = S.put q []) := Lib.hid ((hT _).trans HSE.out)
  have HT0 : Hid (T 0 = S) := Lib.hid ((hT 0).trans HS0.out)
  simp only [← hT] at HFIT HPOP
  clear hT HSE HS0
  rw [← HTE.out]
  rw [← HT0.out] at HX
  clear HTE HT0
  generalize S.at_ q = L at *
  obtain ⟨n, hn⟩ : ∃ n, n = L.length := ⟨_, rfl⟩
  have HN := Lib.hid hn
  rw [← hn] at hlen HLN ⊢
  clear hn
  go_enter Tryz.func142, Tryz.ntmps142
  go_wp2_with (first
    | (go_at_call 167
       refine HLN.out.mono ?_
       rintro e u1 ⟨rfl, hb⟩
       have HX1 := Lib.hid (HX.out.step hb)
       have HE1 := Lib.hid ((Ext.refl F w).step hb)
       clear hb))
  clear x1
  go_loopw [5, 14] (fun o vi wr => ∃ (j : Nat) (B : Option Addr) (d : Nat) (F' : Nat → Prop), vi = .int .i64 (j : Int) ∧ o = .slice B j d ∧ j ≤ n ∧ OwnC wr w.heap.size 3 1 B j d (fun k => .int .i64 (L.getD k 0 : Int)) ∧ WX wr p ap z g c A (T j) now tn ta tw tt F' ∧ Ext F F' w wr ∧ ∀ k, Value.ownBlock (.slice B j d) = some k → ¬ F' k) (fun _ vi _ => n - (intOf vi).toNat)
  case atStart => exact ⟨0, none, 0, F, rfl, rfl, Nat.zero_le _, OwnC.nil_ _ _ _ _ _, HX1.out, HE1.out, fun k e => by cases e⟩
  case round =>
    obtain ⟨j, B, d, F1, rfl, rfl, hj, ho, hx, he, hnf⟩ := hrel
    have HO := Lib.hid ho
    have HXr := Lib.hid hx
    have HE := Lib.hid he
    have HNF := Lib.hid hnf
    clear ho hx he hnf HX1 HE1
    by_cases hjn : j < n
    · have hjn' : (j : Int) < (n : Int) := by omega
      have x1 : wr.cell? ⟨p, 1, none⟩ = some (.pointer (some ⟨z, 0, none⟩)) := blk_cell HXr.out.blk 1
      obtain ⟨x, hx⟩ : ∃ x, L[j]? = some x := ⟨_, List.getElem?_eq_getElem (by rw [← HN.out]; exact hjn)⟩
      have HGX : Hid (L.getD j 0 = x) := Lib.hid (by rw [List.getD_eq_getElem?_getD, hx]; rfl)
      have hp := HXr.out.slots fun Z => pa_pop (HFIT.out j) Z (q : Int)
      rw [(HPOP.out j x hx).1, (HPOP.out j x hx).2] at hp
      have HP := Lib.hid hp
      clear hp hx
      have zw : IntKind.i64.wrap ((j : Int) + 1) = (j : Int) + 1 := by rw [IntKind.wrap_i64]; omega
      go_upto_region 5 with (first
        | (go_at_call 168
           refine HP.out.mono ?_
           rintro e v ⟨rfl, F2, hx2, he2⟩))
      have HX2 := Lib.hid hx2
      have HE2 := Lib.hid (HE.out.trans he2)
      have HO2 : Hid (OwnC v w.heap.size 3 1 B j d (fun k => .int .i64 (L.getD k 0 : Int))) := Lib.hid (HO.out.keepAny fun g e => he2.kept.block g (by subst e; exact HO.out.ltA) (HNF.out g (by rw [e]; rfl)))
      have HNF2 : Hid (∀ k, Value.ownBlock (.slice B j d) = some k → ¬ F2 k) := Lib.hid fun k e hF => by
        rcases he2.sub k hF with q | ⟨q, _⟩
        · exact HNF.out k e q
        · obtain ⟨a, e1, e2⟩ := ownBlock_some e
          rcases HO.out.2 with ⟨hh, _⟩ | ⟨g', cap, cur, hv, _, hh, _⟩
          · rw [e1] at hh
            cases hh
          · injection hv with h1 _ _
            rw [e1] at h1
            injection h1 with h1
            have := lt_heap hh
            rw [h1] at e2
            have e2 : g' = k := e2
            omega
      clear hx2 he2 HP HXr HE HO HNF x1
      have hws := HE2.out.kept.size
      go_wp2_with (first
        | (at_builtin
           refine wpList_append_vals rfl (.tmp 25) (.tmp 27) 191 rfl w.heap.size 3 i0 (.int .i64 0) 1 Tryz.underlying191 HI0.out HZ0.out HZ1.out rfl (by decide) rfl (HO2.out.alloc (.cells #[.int .i64 (x : Int)] 3)) (m := 1) (A' := some ⟨v.heap.size, 0, none⟩) (B := (v.alloc (.cells #[.int .i64 (x : Int)] 3)).heap.size) (g := fun k => (#[.int .i64 (x : Int)] : Array Value)[k]?.getD undef) rfl (.inr ⟨v.heap.size, 0, rfl, by simp, fun k hk => ?_⟩) (fun k hk => ?_) (by unfold maxLen; omega) (by rw [HZ2.out]; omega) (Nat.le_trans hws (alloc_le v _)) ?_
           · rw [Nat.zero_add, blk_cell (heap_alloc_new v _) k]
             match k, hk with
             | 0, _ => rfl
           · match k, hk with
             | 0, _ => rfl
           intro B2 d2 u hown hg hbk
           have HO3 := Lib.hid hown
           have HX3 : Hid (WX u p ap z g c A (T (j + 1)) now tn ta tw tt F2) := Lib.hid ((HX2.out.step (below_alloc v (.cells #[.int .i64 (x : Int)] 3))).own hg HNF2.out)
           have HE3 : Hid (Ext F F2 w u) := Lib.hid ((HE2.out.step (below_alloc v (.cells #[.int .i64 (x : Int)] 3))).own hg HO2.out.at_)
           have HNF3 : Hid (∀ k, Value.ownBlock (.slice B2 (j + 1) d2) = some k → ¬ F2 k) := Lib.hid fun k e hF => by
             rcases hbk with e2 | e2
             · exact HNF2.out k (e2.symm.trans e) hF
             · rw [e] at e2
               injection e2 with e2
               have := HX2.out.old k hF
               have := alloc_le v (.cells #[.int .i64 (x : Int)] 3)
               omega
           clear hown hg hbk))
      go_roundw
      case rel =>
        refine ⟨j + 1, B2, d2, F2, by go_num, rfl, by omega, HO3.out.same fun k hk => ?_, HX3.out, HE3.out, HNF3.out⟩
        unfold catV
        by_cases e : k < j * 1
        · rw [if_pos e]
        · rw [if_neg e]
          have : k = j := by omega
          subst this
          rw [HGX.out]
          simp
      case measure => simp [intOf]; omega
    · obtain rfl : n = j := by omega
      go_wp2_with fail
      go_ret
      exact ⟨B, d, rfl, HO.out, F1, HXr.out, HE.out, HNF.out⟩
end Go.Proofs.YtimcdnbfdkpffaaGreat
