/- Layer 5: the bytes that the document's writers make. -/
import Derived.Test.YtmcapemlicjfjaaRSb
namespace Go.Proofs.Ytmcapemlicjfjaa
open Go.RowKit
/-- The document's writer's own memory: three boxes, the header's bytes so far. -/
structure WrH (w W : World) (s d : Nat → Int) (cs : Array Value) (t : TypeId) (A : Option Addr) (n c : Nat) (g : Nat → Int) : Prop where
  box : Box3 w W s d cs t
  own : Own W (w.heap.size + 1 + 1 + 1) 5 A n c g
theorem WrH.step {w W W' : World} {s d : Nat → Int} {cs : Array Value} {t : TypeId} {A : Option Addr} {n c : Nat} {g : Nat → Int} (h : WrH w W s d cs t A n c g) (hb : Below W.heap.size W W') : WrH w W' s d cs t A n c g :=
  ⟨h.box.step hb, h.own.below hb⟩
theorem WrH.grow {w W W' : World} {s d : Nat → Int} {cs : Array Value} {t : TypeId} {A A' : Option Addr} {n c n' c' : Nat} {g g' : Nat → Int} (h : WrH w W s d cs t A n c g) (ho : Own W' (w.heap.size + 1 + 1 + 1) 5 A' n' c' g') (hg : W.grownBy W' (Value.ownBlock (.slice A n c))) : WrH w W' s d cs t A' n' c' g' :=
  ⟨h.box.keep ((Below.refl _ _).grown hg h.box.size (fun k hk => h.own.at_ k hk)), ho⟩
theorem WrH.alloc {w W : World} {s d : Nat → Int} {cs : Array Value} {t : TypeId} {A : Option Addr} {n c : Nat} {g : Nat → Int} (h : WrH w W s d cs t A n c g) (o : Obj) : WrH w (W.alloc o) s d cs t A n c g := h.step (below_alloc _ _)
def two (x y : Int) (k : Nat) : Int := if k = 0 then x else y
/-- The bytes: twelve, fourteen, sixteen; those behind the sum; all. -/
def b12 (sp dp sq ak : Int) : Nat → Int := cat 8 (cat 4 (cat 2 (cat 0 (fun _ => 0) (layb sp 2)) (layb dp 2)) (layb sq 4)) (layb ak 4)
def b16 (sp dp sq ak X fl wi : Int) : Nat → Int := cat (12 + 2) (cat 12 (b12 sp dp sq ak) (two X fl)) (layb wi 2)
def btl (ur : Int) (on : Nat) (fo f : Nat → Int) : Nat → Int := cat (2 + on) (cat 2 (cat 0 (fun _ => 0) (layb ur 2)) fo) f
theorem tcp_told {sp dp sq ak : Int} {on n : Nat} {rest fl wi ur su : Int} (fo f : Nat → Int) (h1 : 0 ≤ sp ∧ sp ≤ 65535) (h2 : 0 ≤ dp ∧ dp ≤ 65535) (h3 : 0 ≤ sq ∧ sq ≤ 4294967295) (h4 : 0 ≤ ak ∧ ak ≤ 4294967295) (h6 : 0 ≤ wi ∧ wi ≤ 65535) (h7 : 0 ≤ ur ∧ ur ≤ 65535)
    {p : Nat → Int} (hp0 : p 0 = su / 256) (hp1 : p 1 = su % 256) (k : Nat) (hk : k < 20 + on + n) :
    tcpB sp dp sq ak on rest fl wi su ur fo f k = cat 18 (cat 16 (b16 sp dp sq ak ((5 + (on : Int) / 4) * 16 + rest) fl wi) p) (btl ur on fo f) k := by
  unfold tcpB
  by_cases c : k < 20
  · rw [cat_lt c]
    obtain rfl | rfl | rfl | rfl | rfl | rfl | rfl | rfl | rfl | rfl | rfl | rfl | rfl | rfl | rfl | rfl | rfl | rfl | rfl | rfl : k = 0 ∨ k = 1 ∨ k = 2 ∨ k = 3 ∨ k = 4 ∨ k = 5 ∨ k = 6 ∨ k = 7 ∨ k = 8 ∨ k = 9 ∨ k = 10 ∨ k = 11 ∨ k = 12 ∨ k = 13 ∨ k = 14 ∨ k = 15 ∨ k = 16 ∨ k = 17 ∨ k = 18 ∨ k = 19 := by omega
    all_goals simp [tcpH, b12, b16, btl, cat, layb, pw, two, hp0, hp1]
    all_goals omega
  · rw [cat_ge (by omega), cat_ge (show 18 ≤ k by omega)]
    unfold btl
    by_cases c2 : k < 20 + on
    · rw [cat_lt (by omega), cat_lt (by omega), cat_ge (by omega)]
      all_goals (congr 1 <;> omega)
    · rw [cat_ge (by omega), cat_ge (by omega)]
      all_goals (congr 1 <;> omega)
def h6 (sp dp L : Int) : Nat → Int := cat 4 (cat 2 (cat 0 (fun _ => 0) (layb sp 2)) (layb dp 2)) (layb L 2)
theorem udp_told {sp dp L su : Int} {n : Nat} (f : Nat → Int) (h1 : 0 ≤ sp ∧ sp ≤ 65535) (h2 : 0 ≤ dp ∧ dp ≤ 65535) (h3 : 0 ≤ L ∧ L ≤ 65535) {p : Nat → Int} (hp0 : p 0 = su / 256) (hp1 : p 1 = su % 256) (k : Nat) (_ : k < 8 + n) :
    udpB sp dp L su f k = cat 8 (cat 6 (h6 sp dp L) p) f k := by
  unfold udpB
  by_cases c : k < 8
  · rw [cat_lt c, cat_lt c]
    obtain rfl | rfl | rfl | rfl | rfl | rfl | rfl | rfl : k = 0 ∨ k = 1 ∨ k = 2 ∨ k = 3 ∨ k = 4 ∨ k = 5 ∨ k = 6 ∨ k = 7 := by omega
    all_goals simp [udpH, h6, cat, layb, pw, hp0, hp1]
    all_goals omega
  · rw [cat_ge (by omega), cat_ge (by omega)]
theorem lay_two {su : Int} (h : 0 ≤ su ∧ su ≤ 65535) : layb su 2 0 = su / 256 ∧ layb su 2 1 = su % 256 := by
  have e0 : layb su 2 0 = su / 256 % 256 := rfl
  have e1 : layb su 2 1 = su % 256 := rfl
  omega
theorem layb_byt (x : Int) (m : Nat) : Byt (layb x m) := fun k => by
  unfold layb
  omega
end Go.Proofs.Ytmcapemlicjfjaa
