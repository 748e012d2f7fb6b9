import Derived.Test.YthjgecdnlpdcdaaM6
import Derived.Test.YthjgecdnlpdcdaaM7
/- The program's pseudo header. -/
namespace Go.Proofs.Ythjgecdnlpdcdaa
set_option maxRecDepth 100000
open Go.RowKit
theorem rd_arr {w : World} {g : Nat} {f : Nat → Int} {t : TypeId} (h : w.heap[g]? = some (.cells (arr16 f) t (0, 0))) (n : Nat) (hn : n ≤ 16) : Rd w w.heap.size (some ⟨g, 0, none⟩) n f :=
  .inr ⟨_, _, rfl, lt_of_heap h, fun k hk => by rw [Nat.zero_add, cell_in h k]; exact arr16_get f k (by omega)⟩
/-- What stands behind the addresses: IPv4's, IPv6's. -/
def head4 (pr L : Int) (k : Nat) : Int := match k with
  | 1 => pr | 2 => L / 256 % 256 | 3 => L % 256 | _ => 0
def head6 (pr L : Int) (k : Nat) : Int := match k with
  | 0 => L / 16777216 % 256 | 1 => L / 65536 % 256 | 2 => L / 256 % 256 | 3 => L % 256 | 7 => pr | _ => 0
theorem head4_byt {pr : Int} (h1 : 0 ≤ pr) (h2 : pr ≤ 255) (L : Int) : Byt (head4 pr L) := fun k => by unfold head4; split <;> omega
theorem head6_byt {pr : Int} (h1 : 0 ≤ pr) (h2 : pr ≤ 255) (L : Int) : Byt (head6 pr L) := fun k => by unfold head6; split <;> omega
def psum (v6 : Bool) (f g : Nat → Int) (pr L : Int) : Int × Bool := match v6 with
  | false => fld (head4 pr L) (fld g (fld f (0, false) 4) 4) 4
  | true => fld (head6 pr L) (fld g (fld f (0, false) 16) 16) 8
/-- The three blocks with which Pseudo begins. -/
structure PsW (w wr : World) (f g : Nat → Int) : Prop where
  b0 : wr.heap[w.heap.size]? = some (.cells (arr16 f) 22 (0, 0))
  b1 : wr.heap[w.heap.size + 1]? = some (.cells (arr16 g) 22 (0, 0))
  b2 : wr.heap[w.heap.size + 1 + 1]? = some (.cells #[.int .u16 0, .bool false] 84 (0, 0))
  below : Below w.heap.size w wr
theorem heap_old (w : World) (o : Obj) {k : Nat} {x : Obj} (h : w.heap[k]? = some x) : (w.alloc o).heap[k]? = some x := (Below.heap_alloc w o k (lt_of_heap h)).trans h
theorem PsW.start (w : World) (f g : Nat → Int) : PsW w (((w.alloc (Obj.cells (arr16 f) 22)).alloc (Obj.cells (arr16 g) 22)).alloc (Obj.cells #[.int .u16 0, .bool false] 84)) f g := by
  have e1 : (w.alloc (Obj.cells (arr16 f) 22)).heap.size = w.heap.size + 1 := by simp
  have e2 : ((w.alloc (Obj.cells (arr16 f) 22)).alloc (Obj.cells (arr16 g) 22)).heap.size = w.heap.size + 1 + 1 := by simp
  refine ⟨heap_old _ _ (heap_old _ _ (heap_alloc_new w _)), heap_old _ _ ?_, ?_, (below_alloc2 w _ _).alloc (alloc_le2 w _ _) _⟩
  · rw [← e1]; exact heap_alloc_new _ _
  · rw [← e2]; exact heap_alloc_new _ _
set_option maxHeartbeats 400000 in
theorem pseudo4 (f g : Nat → Int) (hf : Byt f) (hg : Byt g) (pr len : Int) (h1 : 0 ≤ pr) (h2 : pr ≤ 255) (h3 : 0 ≤ len) (h4 : len ≤ 9223372036854775807) (w : World) :
    Calls Try.prog 35 #[.bool false, .agg (arr16 f), .agg (arr16 g), .int .u8 pr, .int .i64 len] w fun e w' => e = .returned (.agg #[.int .u16 (psum false f g pr (len % 4294967296)).1, .bool (psum false f g pr (len % 4294967296)).2]) ∧ Below w.heap.size w w' := by
  have HF := Lib.hid hf
  have HG := Lib.hid hg
  clear hf hg
  have HH := Lib.hid (head4_byt h1 h2 (len % 4294967296))
  obtain ⟨r, hr⟩ : ∃ r, r = psum false f g pr (len % 4294967296) := ⟨_, rfl⟩
  rw [← hr]
  have HRr := Lib.hid hr
  clear hr
  go_enter Try.func35, Try.ntmps35
  go_wp2
  have hp := PsW.start w f g
  generalize ((w.alloc (Obj.cells (arr16 f) 22)).alloc (Obj.cells (arr16 g) 22)).alloc (Obj.cells #[.int .u16 0, .bool false] 84) = w3 at *
  obtain ⟨b0, b1, b2, hb3⟩ := hp
  have HRf := Lib.hid (rd_arr b0 4 (by omega))
  have HRg := Lib.hid (rd_arr b1 4 (by omega))
  have hl2 := lt_of_heap b2
  have k0 := cell_in b2 0
  have k1 := cell_in b2 1
  have m0 := free_in b2 0
  have m1 := free_in b2 1
  have q0 := cell_in b0 0
  have q1 := cell_in b1 0
  simp at k0 k1
  clear b0 b1 b2
  have hn0 : 0 ≤ len % 4294967296 := by omega
  have hn1 : len % 4294967296 ≤ 4294967295 := by omega
  generalize len % 4294967296 = L at *
  go_region_with ((
    go_at_call 40
    refine (row_any _ (w3.heap.size + 1) (some ⟨w.heap.size, 0, none⟩) (some ⟨w.heap.size + 1, 0, none⟩) (some ⟨w3.heap.size, 0, none⟩) 4 4 4 16 16 4 f g (head4 pr L) HF.out HG.out HH.out
      (by omega) (by omega) (by omega) (by omega) (by omega) (by omega) (by go_simp) (by go_simp) (by go_simp) ?_ ?_ ?_).mono ?_
    · exact (HRf.out.drew.keep (below_alloc2 w3.drew _ _)).more (alloc_le2 w3.drew _ _)
    · exact (HRg.out.drew.keep (below_alloc2 w3.drew _ _)).more (alloc_le2 w3.drew _ _)
    · refine .inr ⟨_, _, rfl, by simp; omega, fun k hk => ?_⟩
      match k, hk with
      | 0, _ => go_simp; rfl
      | 1, _ => go_simp; rfl
      | 2, _ => go_simp; rfl
      | 3, _ => go_simp; rfl
    rintro e w5 ⟨rfl, hb5⟩
    have hb6 : Below w3.heap.size w3 w5 := ((Below.refl w3.heap.size w3).drew.trans (below_alloc2 w3.drew _ _)).trans (hb5.mono (alloc_le2 w3.drew _ _))
    clear hb5
    have j0 := (hb6.cell (p := ⟨w.heap.size + 1 + 1, 0, none⟩) hl2).trans k0
    have j1 := (hb6.cell (p := ⟨w.heap.size + 1 + 1, 1, none⟩) hl2).trans k1
    have i0 := (hb6.frozen (p := ⟨w.heap.size + 1 + 1, 0, none⟩) hl2).trans m0
    have i1 := (hb6.frozen (p := ⟨w.heap.size + 1 + 1, 1, none⟩) hl2).trans m1))
  have hb7 := hb3.trans (hb6.mono hb3.size)
  rw [show fld (head4 pr L) (fld g (fld f (0, false) 4) 4) 4 = r from HRr.out.symm]
  go_wp2
  refine bodyPost_ret (v := .agg #[.int .u16 r.1, .bool r.2]) (by simp [results, Try.results35, go_sem, j0, j1]) rfl ⟨rfl, ?_⟩
  exact (hb7.setCell (by simp; omega) _).setCell (by simp; omega) _
set_option maxHeartbeats 400000 in
theorem pseudo6 (f g : Nat → Int) (hf : Byt f) (hg : Byt g) (pr len : Int) (h1 : 0 ≤ pr) (h2 : pr ≤ 255) (h3 : 0 ≤ len) (h4 : len ≤ 9223372036854775807) (w : World) :
    Calls Try.prog 35 #[.bool true, .agg (arr16 f), .agg (arr16 g), .int .u8 pr, .int .i64 len] w fun e w' => e = .returned (.agg #[.int .u16 (psum true f g pr (len % 4294967296)).1, .bool (psum true f g pr (len % 4294967296)).2]) ∧ Below w.heap.size w w' := by
  have HF := Lib.hid hf
  have HG := Lib.hid hg
  clear hf hg
  have HH := Lib.hid (head6_byt h1 h2 (len % 4294967296))
  obtain ⟨r, hr⟩ : ∃ r, r = psum true f g pr (len % 4294967296) := ⟨_, rfl⟩
  rw [← hr]
  have HRr := Lib.hid hr
  clear hr
  go_enter Try.func35, Try.ntmps35
  go_wp2
  have hp := PsW.start w f g
  generalize ((w.alloc (Obj.cells (arr16 f) 22)).alloc (Obj.cells (arr16 g) 22)).alloc (Obj.cells #[.int .u16 0, .bool false] 84) = w3 at *
  obtain ⟨b0, b1, b2, hb3⟩ := hp
  have HRf := Lib.hid (rd_arr b0 16 (by omega))
  have HRg := Lib.hid (rd_arr b1 16 (by omega))
  have hl2 := lt_of_heap b2
  have k0 := cell_in b2 0
  have k1 := cell_in b2 1
  have m0 := free_in b2 0
  have m1 := free_in b2 1
  have q0 := cell_in b0 0
  have q1 := cell_in b1 0
  simp at k0 k1
  clear b0 b1 b2
  have hn0 : 0 ≤ len % 4294967296 := by omega
  have hn1 : len % 4294967296 ≤ 4294967295 := by omega
  generalize len % 4294967296 = L at *
  go_region_with ((
    go_at_call 40
    refine (row_any _ (w3.heap.size + 1) (some ⟨w.heap.size, 0, none⟩) (some ⟨w.heap.size + 1, 0, none⟩) (some ⟨w3.heap.size, 0, none⟩) 16 16 8 16 16 8 f g (head6 pr L) HF.out HG.out HH.out
      (by omega) (by omega) (by omega) (by omega) (by omega) (by omega) (by go_simp) (by go_simp) (by go_simp) ?_ ?_ ?_).mono ?_
    · exact (HRf.out.drew.keep (below_alloc2 w3.drew _ _)).more (alloc_le2 w3.drew _ _)
    · exact (HRg.out.drew.keep (below_alloc2 w3.drew _ _)).more (alloc_le2 w3.drew _ _)
    · refine .inr ⟨_, _, rfl, by simp; omega, fun k hk => ?_⟩
      match k, hk with
      | 0, _ => go_simp; rfl
      | 1, _ => go_simp; rfl
      | 2, _ => go_simp; rfl
      | 3, _ => go_simp; rfl
      | 4, _ => go_simp; rfl
      | 5, _ => go_simp; rfl
      | 6, _ => go_simp; rfl
      | 7, _ => go_simp; rfl
    rintro e w5 ⟨rfl, hb5⟩
    have hb6 : Below w3.heap.size w3 w5 := ((Below.refl w3.heap.size w3).drew.trans (below_alloc2 w3.drew _ _)).trans (hb5.mono (alloc_le2 w3.drew _ _))
    clear hb5
    have j0 := (hb6.cell (p := ⟨w.heap.size + 1 + 1, 0, none⟩) hl2).trans k0
    have j1 := (hb6.cell (p := ⟨w.heap.size + 1 + 1, 1, none⟩) hl2).trans k1
    have i0 := (hb6.frozen (p := ⟨w.heap.size + 1 + 1, 0, none⟩) hl2).trans m0
    have i1 := (hb6.frozen (p := ⟨w.heap.size + 1 + 1, 1, none⟩) hl2).trans m1))
  have hb7 := hb3.trans (hb6.mono hb3.size)
  rw [show fld (head6 pr L) (fld g (fld f (0, false) 16) 16) 8 = r from HRr.out.symm]
  go_wp2
  refine bodyPost_ret (v := .agg #[.int .u16 r.1, .bool r.2]) (by simp [results, Try.results35, go_sem, j0, j1]) rfl ⟨rfl, ?_⟩
  exact (hb7.setCell (by simp; omega) _).setCell (by simp; omega) _
end Go.Proofs.Ythjgecdnlpdcdaa
