import Derived.Test.YthjgecdnlpdcdaaM21
/- Layer 5: the closure that lays words in bytes. -/
namespace Go.Proofs.Ythjgecdnlpdcdaa
set_option maxRecDepth 100000
open Go.RowKit
/-- Words laid in bytes, one behind the other, from a place on. -/
def layw (f : Nat → Int) (p : Nat) (x : Nat → Int) : Nat → Nat → Int
  | 0 => f
  | k + 1 => lay2 (layw f p x k) (p + 2 * k) (x k)
theorem grown_set {w : World} {g : Nat} (o : Nat) (v : Value) : w.grownBy (w.setCell ⟨g, o, none⟩ v) (some g) :=
  ⟨rfl, rfl, rfl, by simp, fun i _ hi => Below.heap_setCell w ⟨g, o, none⟩ v i (fun e => hi (by rw [e]))⟩
theorem grown_drew {w w' : World} {r : Option Nat} (h : w.grownBy w' r) : w.grownBy w'.drew r := ⟨h.os, h.tape, h.output, h.size, h.block⟩
/-- The bytes so far, the variable that holds them, the words. -/
structure LayS (base p g n c z m : Nat) (x : Nat → Int) (W wr : World) (f : Nat → Int) : Prop where
  own : Own wr base 5 (some ⟨g, 0, none⟩) n c f
  grown : W.grownBy wr (some g)
  ptr : wr.cell? ⟨p, 0, none⟩ = some (.slice (some ⟨g, 0, none⟩) n c)
  wd : ∀ k, k < m → wr.cell? ⟨z, k, none⟩ = some (.int .u16 (x k))
theorem LayS.two {base p g n c z m : Nat} {x : Nat → Int} {W wr : World} {f : Nat → Int} (h : LayS base p g n c z m x W wr f) (hpg : p ≠ g) (hzg : z ≠ g) (i j : Nat) (u v : Int) :
    LayS base p g n c z m x W ((wr.setCell ⟨g, i, none⟩ (.int .u8 u)).setCell ⟨g, j, none⟩ (.int .u8 v)).drew (upd (upd f i u) j v) := by
  have hg : W.grownBy ((wr.setCell ⟨g, i, none⟩ (.int .u8 u)).setCell ⟨g, j, none⟩ (.int .u8 v)).drew (some g) := grown_drew ((h.grown.trans (grown_set i _)).trans (grown_set j _))
  have hw : wr.grownBy ((wr.setCell ⟨g, i, none⟩ (.int .u8 u)).setCell ⟨g, j, none⟩ (.int .u8 v)).drew (some g) := grown_drew ((grown_set i _).trans (grown_set j _))
  exact ⟨((h.own.set_ i u).set_ j v).drew, hg, hw.cell h.ptr (fun e => hpg (by injection e)), fun k hk => hw.cell (h.wd k hk) (fun e => hzg (by injection e))⟩
set_option maxHeartbeats 1000000 in
theorem layer_any (base p g n c at_ z m mc : Nat) (x f : Nat → Int) (hx : ∀ k, k < m → 0 ≤ x k ∧ x k ≤ 65535) (W : World) (hp : W.cell? ⟨p, 0, none⟩ = some (.slice (some ⟨g, 0, none⟩) n c)) (hz : ∀ k, k < m → W.cell? ⟨z, k, none⟩ = some (.int .u16 (x k)))
    (ho : Own W base 5 (some ⟨g, 0, none⟩) n c f) (hat : at_ + 2 * m ≤ n) (hn : n ≤ 4611686018427387904) (hpg : p ≠ g) (hzg : z ≠ g) :
    Calls Try.prog 32 #[.int .i64 (at_ : Int), .slice (some ⟨z, 0, none⟩) m mc, .pointer (some ⟨p, 0, none⟩)] W fun e w' => e = .returned (.tuple #[]) ∧ Own w' base 5 (some ⟨g, 0, none⟩) n c (layw f at_ x m) ∧ W.grownBy w' (some g) := by
  have HX := Lib.hid hx
  have HS0 : Hid (LayS base p g n c z m x W W (layw f at_ x 0)) := Lib.hid ⟨ho, World.grownBy.refl _ _, hp, hz⟩
  clear hx hp hz ho
  go_enter Try.func32, Try.ntmps32
  go_wp2
  go_loopw [9] (fun i wr => ∃ k : Nat, k ≤ m ∧ i = .int .i64 k ∧ Hid (LayS base p g n c z m x W wr (layw f at_ x k))) (fun i _ => m - (intOf i).toNat)
  case atStart => exact ⟨0, by omega, rfl, HS0⟩
  case round =>
    clear HS0
    obtain ⟨k, hk, rfl, HS⟩ := hrel
    by_cases hlt : k < m
    · have hcx : wr.cell? ⟨z, k, none⟩ = some (.int .u16 (x k)) := HS.out.wd k hlt
      obtain ⟨hx0, hx1⟩ := HX.out k hlt
      obtain ⟨g', hg', _, _, hcell, hfro⟩ := HS.out.own.lies (by omega)
      injection hg' with hg'
      injection hg' with hg'
      subst hg'
      have c0 := HS.out.ptr
      have c1 := hcell (at_ + 2 * k) (by omega)
      have c2 := hcell (at_ + 2 * k + 1) (by omega)
      have f1 := hfro (at_ + 2 * k)
      have f2 := hfro (at_ + 2 * k + 1)
      have HS1 : Hid (LayS base p g n c z m x W ((wr.setCell ⟨g, at_ + 2 * k, none⟩ (.int .u8 (x k / 256))).setCell ⟨g, at_ + 2 * k + 1, none⟩ (.int .u8 (x k % 256))).drew (layw f at_ x (k + 1))) := Lib.hid (HS.out.two hpg hzg _ _ _ _)
      have hlt' : (k : Int) < (m : Int) := by omega
      have i0 : (0 : Int) ≤ (at_ : Int) + 2 * (k : Int) := by omega
      have i1 : (at_ : Int) + 2 * (k : Int) < (n : Int) := by omega
      have i2 : (0 : Int) ≤ (at_ : Int) + 2 * (k : Int) + 1 := by omega
      have i3 : (at_ : Int) + 2 * (k : Int) + 1 < (n : Int) := by omega
      have i4 : ((at_ : Int) + 2 * (k : Int)).toNat = at_ + 2 * k := by omega
      have i5 : ((at_ : Int) + 2 * (k : Int) + 1).toNat = at_ + 2 * k + 1 := by omega
      have i6 : IntKind.i64.wrap ((at_ : Int) + 2 * (k : Int) + 1) = (at_ : Int) + 2 * (k : Int) + 1 := by rw [IntKind.wrap_i64]; omega
      have i7 : IntKind.i64.wrap (2 * (k : Int)) = 2 * (k : Int) := by rw [IntKind.wrap_i64]; omega
      have i8 : IntKind.i64.wrap ((at_ : Int) + 2 * (k : Int)) = (at_ : Int) + 2 * (k : Int) := by rw [IntKind.wrap_i64]; omega
      have i9 : IntKind.i64.wrap ((k : Int) + 1) = (k : Int) + 1 := by rw [IntKind.wrap_i64]; omega
      clear hcell hfro HS
      generalize x k = y at *
      have hq1 : IntKind.u8.wrap (y / 256) = y / 256 := by
        simp only [IntKind.wrap_u8]
        omega
      have hq2 : IntKind.u8.wrap y = y % 256 := by simp only [IntKind.wrap_u8]
      go_upto_region 3 with fail
      clear hcx
      apply wp_one
      case h =>
        go_region_held3 (fun w' => w'.cell? ⟨p, 0, none⟩ = some (.slice (some ⟨g, 0, none⟩) n c)) (first | (with_reducible exact c0) | (go_simp)) (fail)
        all_goals exact ⟨rfl, rfl, rfl⟩
      case hq =>
        clear c0 c1 c2 f1 f2 i0 i1 i2 i3 i4 i5 i6 i7 i8 hq1 hq2
        go_wp2_with fail
        go_roundw
        case rel => exact ⟨k + 1, by omega, by go_num, HS1⟩
        case measure => simp [intOf]; omega
    · obtain rfl : k = m := by omega
      go_wp2
      exact bodyPost_end (v := .tuple #[]) (by simp [results, Try.results32]) rfl ⟨rfl, HS.out.own, HS.out.grown⟩
/-- What lays words, as it lies in memory. -/
def lyV (p : Nat) : Value := .func (.func 32) #[] #[.pointer (some ⟨p, 0, none⟩)]
theorem mklayer_any (v : Value) (A : Option Addr) (n c : Nat) (hv : v = .slice A n c) (w : World) :
    Calls Try.prog 21 #[v] w fun e w' => e = .returned (lyV w.heap.size) ∧ w' = w.alloc (.cells #[.slice A n c] 26) := by
  subst hv
  have hmf : ∀ (fn : Fn) (first cap : Array Value) (w : World), (Instr.makeFunc fn first cap).run Try.prog w = .ok (.func fn first cap) w := fun _ _ _ _ => rfl
  go_enter Try.func21, Try.ntmps21
  go_wp2
  go_ret
  exact ⟨rfl, rfl⟩
end Go.Proofs.Ythjgecdnlpdcdaa
