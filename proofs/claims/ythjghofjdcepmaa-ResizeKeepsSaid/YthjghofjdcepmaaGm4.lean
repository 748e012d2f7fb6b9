import Derived.StillTailTactics
import Derived.Test.YthjghofjdcepmaaGm0
import Derived.Test.YthjghofjdcepmaaGm3
import Derived.Test.YthjghofjdcepmaaGm2
/- Stage 13: the document's table in memory; May, from, many, Entries, Marks, Get. -/
namespace Go.Proofs.Ythjghofjdcepmaa
set_option maxRecDepth 100000
open Go.RowKit Go.Shelf
/-- Entries as cells, and flags. -/
def ecell (eh ew : Nat → Nat) (k : Nat) : Value := if k % 2 = 0 then .int .u64 ((eh (k / 2) : Nat) : Int) else .int .u32 ((ew (k / 2) : Nat) : Int)
theorem ecell_0 (eh ew : Nat → Nat) (j : Nat) : ecell eh ew (j * 2) = .int .u64 ((eh j : Nat) : Int) := by
  unfold ecell
  rw [if_pos (by omega), show j * 2 / 2 = j by omega]
theorem ecell_1 (eh ew : Nat → Nat) (j : Nat) : ecell eh ew (j * 2 + 1) = .int .u32 ((ew j : Nat) : Int) := by
  unfold ecell
  rw [if_neg (by omega), show (j * 2 + 1) / 2 = j by omega]
theorem ecell_one (eh ew : Nat → Nat) (k : Nat) : (ecell eh ew k).oneCell' = true := by
  unfold ecell
  split <;> rfl
theorem ecell_set (eh ew : Nat → Nat) (p h x k : Nat) : ecell (updN eh p h) (updN ew p x) k = updV (updV (ecell eh ew) (p * 2) (.int .u64 ((h : Nat) : Int))) (p * 2 + 1) (.int .u32 ((x : Nat) : Int)) k := by
  unfold updV ecell updN
  by_cases e1 : k = p * 2 + 1
  · rw [if_pos e1, if_neg (show ¬ k % 2 = 0 by omega), if_pos (by omega)]
  · rw [if_neg e1]
    by_cases e2 : k = p * 2
    · rw [if_pos e2, if_pos (show k % 2 = 0 by omega), if_pos (by omega)]
    · rw [if_neg e2]
      by_cases e3 : k % 2 = 0
      · rw [if_pos e3, if_pos e3, if_neg (by omega)]
      · rw [if_neg e3, if_neg e3, if_neg (by omega)]
def flg (f : Nat → Bool) (k : Nat) : Value := .bool (f k)
theorem flg_set (f : Nat → Bool) (p : Nat) (v : Bool) (k : Nat) : flg (updB f p v) k = updV (flg f) p (.bool v) k := by
  unfold flg updV updB
  split <;> rfl
/-- The document's table at q stands for s; G: its blocks (old ones may be others' too: they are not written into). -/
structure RT (w : World) (q : Nat) (AF : Option Addr) (cF : Nat) (AM : Option Addr) (cM : Nat) (AE : Option Addr) (cE : Nat) (s : Tb) (G : Nat → Prop) : Prop where
  blk : w.heap[q]? = some (.cells #[.slice AF s.n cF, .slice AM s.n cM, .slice AE s.n cE] 69 (0, 0))
  capF : s.n ≤ cF ∧ cF ≤ 9223372036854775807
  capM : s.n ≤ cM ∧ cM ≤ 9223372036854775807
  capE : s.n ≤ cE ∧ cE ≤ 9223372036854775807
  fF : RdG w (fun k => G k ∧ k ≠ q) AF s.n (flg s.ful)
  fM : RdG w (fun k => G k ∧ k ≠ q) AM s.n (flg s.mrk)
  fE : RdG w (fun k => G k ∧ k ≠ q) AE (s.n * 2) (ecell s.eh s.ew)
  mem : G q
  old : ∀ k, G k → k < w.heap.size
def RTA (w : World) (q : Nat) (s : Tb) (G : Nat → Prop) : Prop := ∃ AF cF AM cM AE cE, RT w q AF cF AM cM AE cE s G
section
variable {w w' : World} {q : Nat} {AF AM AE : Option Addr} {cF cM cE : Nat} {s : Tb} {G : Nat → Prop}
theorem RT.keep {R : Nat → Prop} (h : RT w q AF cF AM cM AE cE s G) (hk : Kept R w w') (hd : ∀ k, G k → ¬ R k) : RT w' q AF cF AM cM AE cE s G :=
  ⟨(hk.block q (h.old q h.mem) (hd q h.mem)).trans h.blk, h.capF, h.capM, h.capE, h.fF.keep hk fun k q => hd k q.1, h.fM.keep hk fun k q => hd k q.1, h.fE.keep hk fun k q => hd k q.1, h.mem, fun k hG => Nat.lt_of_lt_of_le (h.old k hG) hk.size⟩
theorem RT.mono {G' : Nat → Prop} (h : RT w q AF cF AM cM AE cE s G) (hG : ∀ k, G k → G' k) (ho : ∀ k, G' k → k < w.heap.size) : RT w q AF cF AM cM AE cE s G' :=
  ⟨h.blk, h.capF, h.capM, h.capE, h.fF.mono fun k q => ⟨hG k q.1, q.2⟩, h.fM.mono fun k q => ⟨hG k q.1, q.2⟩, h.fE.mono fun k q => ⟨hG k q.1, q.2⟩, hG q h.mem, ho⟩
theorem RT.step (h : RT w q AF cF AM cM AE cE s G) (hb : Below w.heap.size w w') : RT w' q AF cF AM cM AE cE s G := h.keep (Kept.of_below hb fun _ => False) fun _ _ q => q
theorem RTA.keep {R : Nat → Prop} (h : RTA w q s G) (hk : Kept R w w') (hd : ∀ k, G k → ¬ R k) : RTA w' q s G := by
  obtain ⟨AF, cF, AM, cM, AE, cE, h⟩ := h
  exact ⟨AF, cF, AM, cM, AE, cE, h.keep hk hd⟩
theorem RTA.old (h : RTA w q s G) : ∀ k, G k → k < w.heap.size := by
  obtain ⟨AF, cF, AM, cM, AE, cE, h⟩ := h
  exact h.old
theorem RTA.mem (h : RTA w q s G) : G q := by
  obtain ⟨AF, cF, AM, cM, AE, cE, h⟩ := h
  exact h.mem
theorem RTA.step (h : RTA w q s G) (hb : Below w.heap.size w w') : RTA w' q s G := h.keep (Kept.of_below hb fun _ => False) fun _ _ q => q
theorem rdg_pos {W : World} {H : Nat → Prop} {A : Option Addr} {m : Nat} {f : Nat → Value} (h : RdG W H A m f) (hm : 0 < m) : ∃ b off, A = some ⟨b, off, none⟩ ∧ H b ∧ b < W.heap.size ∧ ∀ k, k < m → W.cell? ⟨b, off + k, none⟩ = some (f k) := by
  rcases h with h | h
  · exact absurd h (by omega)
  · exact h
end
def mayI (p : Int) : Bool := decide (p = 8) || decide (p = 16) || decide (p = 32) || decide (p = 64) || decide (p = 128) || decide (p = 256) || decide (p = 512) || decide (p = 1024) || decide (p = 2048) || decide (p = 4096) || decide (p = 8192) || decide (p = 16384) || decide (p = 32768) || decide (p = 65536) || decide (p = 131072) || decide (p = 262144)
theorem mayI_pos {p : Int} (h : mayI p = true) : ∃ n : Nat, p = (n : Int) ∧ 8 ≤ n ∧ n ≤ 262144 := by
  unfold mayI at h
  simp only [Bool.or_eq_true, decide_eq_true_eq] at h
  exact ⟨p.toNat, by omega, by omega, by omega⟩
def powJ : Nat → Nat
  | 0 => 8
  | j + 1 => 2 * powJ j
theorem powJ_all {j : Nat} (hj : j ≤ 15) : 8 ≤ powJ j ∧ powJ j ≤ 262144 ∧ (powJ j = 262144 ↔ j = 15) ∧ mayI (powJ j : Int) = true := by
  match j, hj with
  | 0, _ => decide
  | 1, _ => decide
  | 2, _ => decide
  | 3, _ => decide
  | 4, _ => decide
  | 5, _ => decide
  | 6, _ => decide
  | 7, _ => decide
  | 8, _ => decide
  | 9, _ => decide
  | 10, _ => decide
  | 11, _ => decide
  | 12, _ => decide
  | 13, _ => decide
  | 14, _ => decide
  | 15, _ => decide
  | j + 16, h => exact absurd h (by omega)
theorem mayI_pow {p : Int} (h : mayI p = true) : ∃ j, j ≤ 15 ∧ p = (powJ j : Int) := by
  unfold mayI at h
  simp only [Bool.or_eq_true, decide_eq_true_eq] at h
  rcases h with (((((((((((((((h | h) | h) | h) | h) | h) | h) | h) | h) | h) | h) | h) | h) | h) | h) | h)
  · exact ⟨0, by omega, h⟩
  · exact ⟨1, by omega, h⟩
  · exact ⟨2, by omega, h⟩
  · exact ⟨3, by omega, h⟩
  · exact ⟨4, by omega, h⟩
  · exact ⟨5, by omega, h⟩
  · exact ⟨6, by omega, h⟩
  · exact ⟨7, by omega, h⟩
  · exact ⟨8, by omega, h⟩
  · exact ⟨9, by omega, h⟩
  · exact ⟨10, by omega, h⟩
  · exact ⟨11, by omega, h⟩
  · exact ⟨12, by omega, h⟩
  · exact ⟨13, by omega, h⟩
  · exact ⟨14, by omega, h⟩
  · exact ⟨15, by omega, h⟩
theorem powJ_mono : ∀ {i j : Nat}, i ≤ j → powJ i ≤ powJ j
  | i, 0, h => by
    obtain rfl : i = 0 := by omega
    exact Nat.le_refl _
  | i, j + 1, h => by
    rcases (show i ≤ j ∨ i = j + 1 by omega) with q | rfl
    · have := powJ_mono q
      show powJ i ≤ 2 * powJ j
      omega
    · exact Nat.le_refl _
theorem rmay_any (p : Int) (w : World) : Calls Try.prog 8 #[.int .i64 p] w (ret (.bool (mayI p)) w) := by
  obtain ⟨R, hR⟩ : ∃ R, R = mayI p := ⟨_, rfl⟩
  rw [← hR]
  have HR := Lib.hid hR
  clear hR
  go_enter Try.func8, Try.ntmps8
  go_wp2_with fail
  go_loopw [3] (fun v wr => ∃ j : Nat, j ≤ 15 ∧ v = .int .i64 (powJ j : Int) ∧ (∀ i, i < j → (powJ i : Int) < p) ∧ wr = w) (fun v _ => 262144 - (intOf v).toNat)
  case atStart => exact ⟨0, Nat.zero_le _, rfl, fun i hi => absurd hi (Nat.not_lt_zero _), rfl⟩
  case round =>
    obtain ⟨j, hj, rfl, hlow, rfl⟩ := hrel
    obtain ⟨h1, h2, h3, h4⟩ := powJ_all hj
    have HS : Hid (2 * powJ j = powJ (j + 1)) := Lib.hid rfl
    have HL := Lib.hid hlow
    have HM := Lib.hid h4
    obtain ⟨m, hm⟩ : ∃ m, m = powJ j := ⟨_, rfl⟩
    rw [← hm] at h1 h2 h3 HS HM
    have HE := Lib.hid hm
    rw [← hm]
    clear hm hlow h4
    by_cases c1 : (m : Int) < p
    · by_cases c2 : m < 262144
      · have c2' : (m : Int) < 262144 := by omega
        have zm : IntKind.i64.wrap (2 * (m : Int)) = 2 * (m : Int) := by rw [IntKind.wrap_i64]; omega
        go_wp2_with fail
        go_roundw
        case rel =>
          refine ⟨j + 1, ?_, ?_, fun i hi => ?_, trivial⟩
          · rcases (show j < 15 ∨ j = 15 by omega) with q | q
            · exact q
            · have := h3.2 q
              omega
          · rw [← HS.out]
            go_num
          · rcases (show i < j ∨ i = j by omega) with q | rfl
            · exact HL.out i q
            · rw [← HE.out]
              exact c1
        case measure => simp [intOf]; omega
      · have c2' : ¬ (m : Int) < 262144 := by omega
        have c3 : ((m : Int) == p) = false := by simp; omega
        have hRf : Hid (R = false) := Lib.hid (by
          rw [HR.out]
          cases hq : mayI p with
          | false => rfl
          | true =>
            obtain ⟨k, hk, e⟩ := mayI_pow hq
            have := (powJ_all hk).2.1
            omega)
        clear h3
        go_wp2_with fail
        go_ret
        exact ⟨by rw [hRf.out]; rfl, Below.refl _ _⟩
    · have HRE : Hid (((m : Int) == p) = R) := Lib.hid (by
        rw [HR.out]
        by_cases e : (m : Int) = p
        · rw [← e, HM.out]
          simp
        · have e1 : ((m : Int) == p) = false := by simpa using e
          rw [e1]
          cases hq : mayI p with
          | false => rfl
          | true =>
            exfalso
            obtain ⟨k, hk, hke⟩ := mayI_pow hq
            rcases (show k < j ∨ j ≤ k by omega) with q | q
            · have := HL.out k q
              omega
            · have := powJ_mono q
              rw [← HE.out] at this
              omega)
      clear h3
      by_cases e : (m : Int) = p
      · have eb : ((m : Int) == p) = true := by simpa using e
        rw [eb] at HRE
        go_wp2_with fail
        go_ret
        exact ⟨by rw [← HRE.out]; rfl, Below.refl _ _⟩
      · have eb : ((m : Int) == p) = false := by simpa using e
        rw [eb] at HRE
        go_wp2_with fail
        go_ret
        exact ⟨by rw [← HRE.out]; rfl, Below.refl _ _⟩
theorem rmany_any (A : Option Addr) (n c : Nat) (p : Nat → Bool) (hn : n ≤ 262144) (w : World) (hr : RdC w w.heap.size A n (flg p)) : Calls Try.prog 63 #[.slice A n c] w (ret (.int .i64 (cntI p n : Int)) w) := by
  have HR := Lib.hid hr
  obtain ⟨R, hR⟩ : ∃ R, R = cntI p n := ⟨_, rfl⟩
  rw [← hR]
  have HE := Lib.hid hR
  clear hR hr
  go_enter Try.func63, Try.ntmps63
  go_wp2_with fail
  go_loopw [3, 4] (fun vo vi wr => ∃ j x : Nat, j ≤ n ∧ x = cntI p j ∧ vo = .int .i64 (x : Int) ∧ vi = .int .i64 (j : Int) ∧ Below w.heap.size w wr) (fun _ vi _ => n - (intOf vi).toNat)
  case atStart => exact ⟨0, 0, Nat.zero_le _, rfl, rfl, rfl, Below.refl _ _⟩
  case round =>
    obtain ⟨j, x, hj, hxe, rfl, rfl, hb⟩ := hrel
    have hx : x ≤ 262144 := by
      have := cntI_le p j
      omega
    have HB := Lib.hid hb
    by_cases hjk : j < n
    · obtain ⟨bA, off, rfl, hbl, hcl⟩ := rdc_pos HR.out (by omega)
      have i1 : (j : Int) < (n : Int) := by omega
      have i0 : (0 : Int) ≤ (j : Int) := by omega
      have i2 : ((j : Int)).toNat = j := by omega
      have zj : IntKind.i64.wrap ((j : Int) + 1) = (j : Int) + 1 := by rw [IntKind.wrap_i64]; omega
      have zx : IntKind.i64.wrap ((x : Int) + 1) = (x : Int) + 1 := by rw [IntKind.wrap_i64]; omega
      have xj0 : wr.cell? ⟨bA, off + j, none⟩ = some (flg p j) := (hb.cell (p := ⟨bA, off + j, none⟩) hbl).trans (hcl j hjk)
      cases hp : p j with
      | true =>
        have xj : wr.cell? ⟨bA, off + j, none⟩ = some (.bool true) := by rw [xj0, flg, hp]
        have HU : Hid (x + 1 = cntI p (j + 1)) := Lib.hid (by unfold cntI; rw [hp, hxe]; rfl)
        clear hxe hb hcl hp xj0
        go_wp2_with fail
        go_roundw
        case rel => exact ⟨j + 1, x + 1, by omega, HU.out, by go_num, by go_num, HB.out⟩
        case measure => simp [intOf]; omega
      | false =>
        have xj : wr.cell? ⟨bA, off + j, none⟩ = some (.bool false) := by rw [xj0, flg, hp]
        have HU : Hid (x = cntI p (j + 1)) := Lib.hid (by unfold cntI; rw [hp, hxe]; rfl)
        clear hxe hb hcl hp xj0
        go_wp2_with fail
        go_roundw
        case rel => exact ⟨j + 1, x, by omega, HU.out, by go_num, by go_num, HB.out⟩
        case measure => simp [intOf]; omega
    · obtain rfl : j = n := by omega
      obtain rfl : x = R := by rw [hxe, HE.out]
      have i1 : ¬ (j : Int) < (j : Int) := by omega
      clear hxe hb
      go_wp2_with fail
      go_ret
      exact ⟨rfl, HB.out⟩
section
variable {w w' : World} {q : Nat} {AF AM AE : Option Addr} {cF cM cE : Nat} {s : Tb} {G : Nat → Prop}
theorem rfrom_any (h : RT w q AF cF AM cM AE cE s G) (hs : s.Ok) (x : Nat) (_hx : x < 18446744073709551616) : Calls Try.prog 64 #[.pointer (some ⟨q, 0, none⟩), .int .u64 (x : Int)] w (ret (.int .i64 ((x % s.n : Nat) : Int)) w) := by
  have x2 : w.cell? ⟨q, 2, none⟩ = some (.slice AE s.n cE) := blk_cell h.blk 2
  have hp := hs.pos
  have ht := hs.top
  have hm := Nat.mod_lt x hp
  obtain ⟨n, hn⟩ : ∃ n, n = s.n := ⟨_, rfl⟩
  rw [← hn] at x2 hp ht hm ⊢
  clear hn h hs
  have z1 : IntKind.u64.wrap (n : Int) = (n : Int) := by rw [IntKind.wrap_u64]; omega
  have z0 : ¬ (n : Int) = 0 := by omega
  have z2 : (x : Int) % (n : Int) = ((x % n : Nat) : Int) := by rw [Int.natCast_emod]
  obtain ⟨y, hy⟩ : ∃ y, y = x % n := ⟨_, rfl⟩
  rw [← hy] at z2 hm ⊢
  have z3 : IntKind.i64.wrap (y : Int) = (y : Int) := by rw [IntKind.wrap_i64]; omega
  clear hy
  go_enter Try.func64, Try.ntmps64
  go_wp2_with fail
  go_ret
  exact ⟨rfl, Below.refl _ _⟩
theorem rentries_any (h : RT w q AF cF AM cM AE cE s G) (hs : s.Ok) : Calls Try.prog 36 #[.pointer (some ⟨q, 0, none⟩)] w (ret (.int .i64 (s.entries : Int)) w) := by
  have x0 : w.cell? ⟨q, 0, none⟩ = some (.slice AF s.n cF) := blk_cell h.blk 0
  have H1 := Lib.hid (rmany_any AF s.n cF s.ful hs.top w h.fF.rdc)
  have HE : Hid (s.entries = cntI s.ful s.n) := Lib.hid rfl
  obtain ⟨n, hn⟩ : ∃ n, n = s.n := ⟨_, rfl⟩
  rw [HE.out]
  rw [← hn] at x0 H1 ⊢
  clear hn h hs HE
  obtain ⟨R, hR⟩ : ∃ R, R = cntI s.ful n := ⟨_, rfl⟩
  rw [← hR] at H1 ⊢
  clear hR
  go_enter Try.func36, Try.ntmps36
  go_wp2_with (go_at_call 63; refine H1.out.mono ?_; rintro e v1 ⟨rfl, hb1⟩; have HB1 := Lib.hid hb1; clear hb1)
  go_ret
  exact ⟨rfl, HB1.out⟩
theorem rmarks_any (h : RT w q AF cF AM cM AE cE s G) (hs : s.Ok) : Calls Try.prog 37 #[.pointer (some ⟨q, 0, none⟩)] w (ret (.int .i64 (s.marks : Int)) w) := by
  have x0 : w.cell? ⟨q, 1, none⟩ = some (.slice AM s.n cM) := blk_cell h.blk 1
  have H1 := Lib.hid (rmany_any AM s.n cM s.mrk hs.top w h.fM.rdc)
  have HE : Hid (s.marks = cntI s.mrk s.n) := Lib.hid rfl
  obtain ⟨n, hn⟩ : ∃ n, n = s.n := ⟨_, rfl⟩
  rw [HE.out]
  rw [← hn] at x0 H1 ⊢
  clear hn h hs HE
  obtain ⟨R, hR⟩ : ∃ R, R = cntI s.mrk n := ⟨_, rfl⟩
  rw [← hR] at H1 ⊢
  clear hR
  go_enter Try.func37, Try.ntmps37
  go_wp2_with (go_at_call 63; refine H1.out.mono ?_; rintro e v1 ⟨rfl, hb1⟩; have HB1 := Lib.hid hb1; clear hb1)
  go_ret
  exact ⟨rfl, HB1.out⟩
set_option maxHeartbeats 1000000 in
theorem rget_any (h : RT w q AF cF AM cM AE cE s G) (hs : s.Ok) (p : Int) : Calls Try.prog 46 #[.pointer (some ⟨q, 0, none⟩), .int .i64 p] w (ret (.tuple #[.agg (s.gtV p), .bool (s.isF p)]) w) := by
  obtain ⟨bF, oF, rfl, ⟨_, hFq⟩, hFl, hFc⟩ := rdg_pos h.fF hs.pos
  obtain ⟨bE, oE, rfl, ⟨_, hEq⟩, hEl, hEc⟩ := rdg_pos h.fE (by have := hs.pos; omega)
  have HQ := Lib.hid h.blk
  have HFC := Lib.hid hFc
  have HEC := Lib.hid hEc
  have HFL := Lib.hid hFl
  have HEL := Lib.hid hEl
  have HQL := Lib.hid (lt_heap h.blk)
  obtain ⟨hf1, hf2⟩ := h.capF
  obtain ⟨he1, he2⟩ := h.capE
  have HM : Hid ((w.alloc (.cells #[.int .u64 0, .int .u32 0] 34)).heap[w.heap.size]? = some (.cells #[.int .u64 0, .int .u32 0] 34 (0, 0))) := Lib.hid (heap_alloc_new w _)
  have HB : Hid (Below w.heap.size w (w.alloc (.cells #[.int .u64 0, .int .u32 0] 34))) := Lib.hid (below_alloc w _)
  obtain ⟨VV, hVV⟩ : ∃ V, V = s.gtV p := ⟨_, rfl⟩
  obtain ⟨BB, hBB⟩ : ∃ B, B = s.isF p := ⟨_, rfl⟩
  rw [← hVV, ← hBB]
  have HVV := Lib.hid hVV
  have HBB := Lib.hid hBB
  clear hVV hBB
  have HNO : Hid (s.isF p = false → s.gtV p = #[.int .u64 0, .int .u32 0]) := Lib.hid fun e => by unfold Tb.gtV; rw [e]; rfl
  clear h hFc hEc hFq hEq hFl hEl
  obtain ⟨r, hr⟩ : ∃ r, r = w.heap.size := ⟨_, rfl⟩
  have HRW := Lib.hid hr
  rw [← hr] at HM
  go_enter Try.func46, Try.ntmps46
  go_upto_region 1 with fail
  change Code.wp _ _ _ _ (w.alloc (.cells #[.int .u64 0, .int .u32 0] 34))
  rw [← hr]
  clear hr
  generalize w.alloc (.cells #[.int .u64 0, .int .u32 0] 34) = u1 at *
  have hq1 := (HB.out.block q HQL.out).trans HQ.out
  have x0 : u1.cell? ⟨q, 0, none⟩ = some (.slice (some ⟨bF, oF, none⟩) s.n cF) := blk_cell hq1 0
  have x2 : u1.cell? ⟨q, 2, none⟩ = some (.slice (some ⟨bE, oE, none⟩) s.n cE) := blk_cell hq1 2
  have hFu : ∀ k, k < s.n → u1.cell? ⟨bF, oF + k, none⟩ = some (flg s.ful k) := fun k hk => (HB.out.cell (p := ⟨bF, oF + k, none⟩) HFL.out).trans (HFC.out k hk)
  have hEu : ∀ k, k < s.n * 2 → u1.cell? ⟨bE, oE + k, none⟩ = some (ecell s.eh s.ew k) := fun k hk => (HB.out.cell (p := ⟨bE, oE + k, none⟩) HEL.out).trans (HEC.out k hk)
  have HFU := Lib.hid hFu
  have HEU := Lib.hid hEu
  obtain ⟨n, hn⟩ : ∃ n, n = s.n := ⟨_, rfl⟩
  have HN := Lib.hid hn
  rw [← hn] at x0 x2 hf1 he1
  clear hFu hEu hq1 hn HQ HFC HEC HFL HEL HQL
  by_cases c0 : 0 ≤ p
  · by_cases c1 : p < (n : Int)
    · obtain ⟨k, rfl⟩ := Int.eq_ofNat_of_zero_le c0
      have hk : k < n := by omega
      have xf0 := HFU.out k (by rw [← HN.out]; exact hk)
      cases hfk : s.ful k with
      | true =>
        have xf : u1.cell? ⟨bF, oF + k, none⟩ = some (.bool true) := by rw [xf0, flg, hfk]
        have xe0 : u1.cell? ⟨bE, oE + k * 2, none⟩ = some (.int .u64 (s.eh k : Int)) := by rw [HEU.out _ (by rw [← HN.out]; omega), ecell_0]
        have xe1 : u1.cell? ⟨bE, oE + k * 2 + 1, none⟩ = some (.int .u32 (s.ew k : Int)) := by rw [Nat.add_assoc, HEU.out _ (by rw [← HN.out]; omega), ecell_1]
        have HV : Hid (s.isF (k : Int) = true ∧ s.gtV (k : Int) = #[.int .u64 (s.eh k : Int), .int .u32 (s.ew k : Int)]) := Lib.hid (by
          have e : s.isF (k : Int) = true := by
            unfold Tb.isF
            rw [Int.toNat_natCast, hfk, ← HN.out]
            simp
            omega
          refine ⟨e, ?_⟩
          unfold Tb.gtV
          rw [if_pos e, Int.toNat_natCast])
        obtain ⟨ha, hha⟩ : ∃ ha, ha = s.eh k := ⟨_, rfl⟩
        obtain ⟨xa, hxa⟩ : ∃ xa, xa = s.ew k := ⟨_, rfl⟩
        rw [← hha] at xe0 HV
        rw [← hxa] at xe1 HV
        clear xf0 hfk hha hxa HFU HEU hs
        go_wp2_with (first
          | (refine wpList_store_row rfl 34 (.tmp 4) (.tmp 32) rfl r #[.int .u64 (ha : Int), .int .u32 (xa : Int)] rfl rfl 34 #[.int .u64 0, .int .u32 0] HM.out (by kernel_rfl) rfl (by simp [Value.oneCell']) ?_))
        refine bodyPost_ret (v := .tuple #[.agg #[.int .u64 (ha : Int), .int .u32 (xa : Int)], .bool true]) (results_rowa Try.results46 _ _ r 34 #[.int .u64 (ha : Int), .int .u32 (xa : Int)] (0, 0) _ rfl (setRow_heap _ r _ #[.int .u64 (ha : Int), .int .u32 (xa : Int)] _ _ HM.out) Try.underlying34 rfl (by kernel_rfl)) rfl ?_
        exact ⟨by rw [HVV.out, HBB.out, HV.out.1, HV.out.2], below_setRow HB.out (by rw [HRW.out]; exact Nat.le_refl _) _⟩
      | false =>
        have xf : u1.cell? ⟨bF, oF + k, none⟩ = some (.bool false) := by rw [xf0, flg, hfk]
        have HV : Hid (s.isF (k : Int) = false) := Lib.hid (by
          unfold Tb.isF
          rw [Int.toNat_natCast, hfk, Bool.and_false])
        have HW : Hid (VV = #[.int .u64 0, .int .u32 0] ∧ BB = false) := Lib.hid ⟨HVV.out.trans (HNO.out HV.out), HBB.out.trans HV.out⟩
        clear xf0 hfk HFU HEU hs
        go_wp2_with (first
          | (refine wpList_store_row rfl 34 (.tmp 4) (.tmp 33) rfl r #[.int .u64 0, .int .u32 0] rfl rfl 34 #[.int .u64 0, .int .u32 0] HM.out (by kernel_rfl) rfl (by simp [Value.oneCell']) ?_))
        refine bodyPost_ret (v := .tuple #[.agg #[.int .u64 0, .int .u32 0], .bool false]) (results_rowa Try.results46 _ _ r 34 #[.int .u64 0, .int .u32 0] (0, 0) _ rfl (setRow_heap _ r _ #[.int .u64 0, .int .u32 0] _ _ HM.out) Try.underlying34 rfl (by kernel_rfl)) rfl ?_
        exact ⟨by rw [HW.out.1, HW.out.2], below_setRow HB.out (by rw [HRW.out]; exact Nat.le_refl _) _⟩
    · have c1' : (n : Int) ≤ p := by omega
      have HV : Hid (s.isF p = false) := Lib.hid (by
        unfold Tb.isF
        rw [← HN.out, decide_eq_false c1]
        simp)
      have HW : Hid (VV = #[.int .u64 0, .int .u32 0] ∧ BB = false) := Lib.hid ⟨HVV.out.trans (HNO.out HV.out), HBB.out.trans HV.out⟩
      clear HFU HEU hs
      go_wp2_with (first
        | (refine wpList_store_row rfl 34 (.tmp 4) (.tmp 33) rfl r #[.int .u64 0, .int .u32 0] rfl rfl 34 #[.int .u64 0, .int .u32 0] HM.out (by kernel_rfl) rfl (by simp [Value.oneCell']) ?_))
      refine bodyPost_ret (v := .tuple #[.agg #[.int .u64 0, .int .u32 0], .bool false]) (results_rowa Try.results46 _ _ r 34 #[.int .u64 0, .int .u32 0] (0, 0) _ rfl (setRow_heap _ r _ #[.int .u64 0, .int .u32 0] _ _ HM.out) Try.underlying34 rfl (by kernel_rfl)) rfl ?_
      exact ⟨by rw [HW.out.1, HW.out.2], below_setRow HB.out (by rw [HRW.out]; exact Nat.le_refl _) _⟩
  · have HV : Hid (s.isF p = false) := Lib.hid (by
      unfold Tb.isF
      rw [decide_eq_false c0]
      simp)
    have HW : Hid (VV = #[.int .u64 0, .int .u32 0] ∧ BB = false) := Lib.hid ⟨HVV.out.trans (HNO.out HV.out), HBB.out.trans HV.out⟩
    clear HFU HEU hs
    go_wp2_with (first
      | (refine wpList_store_row rfl 34 (.tmp 4) (.tmp 33) rfl r #[.int .u64 0, .int .u32 0] rfl rfl 34 #[.int .u64 0, .int .u32 0] HM.out (by kernel_rfl) rfl (by simp [Value.oneCell']) ?_))
    refine bodyPost_ret (v := .tuple #[.agg #[.int .u64 0, .int .u32 0], .bool false]) (results_rowa Try.results46 _ _ r 34 #[.int .u64 0, .int .u32 0] (0, 0) _ rfl (setRow_heap _ r _ #[.int .u64 0, .int .u32 0] _ _ HM.out) Try.underlying34 rfl (by kernel_rfl)) rfl ?_
    exact ⟨by rw [HW.out.1, HW.out.2], below_setRow HB.out (by rw [HRW.out]; exact Nat.le_refl _) _⟩
end
end Go.Proofs.Ythjghofjdcepmaa
