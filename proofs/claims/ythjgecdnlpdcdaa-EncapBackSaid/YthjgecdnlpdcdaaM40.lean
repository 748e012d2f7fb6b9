import Derived.Test.YthjgecdnlpdcdaaM21
import Derived.Test.YthjgecdnlpdcdaaM27
import Derived.Test.YthjgecdnlpdcdaaM26
import Derived.Test.YthjgecdnlpdcdaaM24
import Derived.Test.YthjgecdnlpdcdaaM32
import Derived.Test.YthjgecdnlpdcdaaM35
import Derived.Test.YthjgecdnlpdcdaaM38
import Derived.Test.YthjgecdnlpdcdaaM37
import Derived.Test.YthjgecdnlpdcdaaM39
import Derived.Test.YthjgecdnlpdcdaaM0
import Derived.Test.YthjgecdnlpdcdaaM16
import Derived.RegionTactic
/- Layer 8's words: an outer, what is wrapped, what is unwrapped. -/
namespace Go.Proofs.Ythjgecdnlpdcdaa
set_option maxRecDepth 100000
open Go.RowKit
def outc (v : Bool) (m : Int) (s d : Nat → Int) (sp : Int) : Array Value := #[.bool v, .int .u8 m, .int .u8 (s 0), .int .u8 (s 1), .int .u8 (s 2), .int .u8 (s 3), .int .u8 (s 4), .int .u8 (s 5), .int .u8 (s 6), .int .u8 (s 7), .int .u8 (s 8), .int .u8 (s 9), .int .u8 (s 10), .int .u8 (s 11), .int .u8 (s 12), .int .u8 (s 13), .int .u8 (s 14), .int .u8 (s 15), .int .u8 (d 0), .int .u8 (d 1), .int .u8 (d 2), .int .u8 (d 3), .int .u8 (d 4), .int .u8 (d 5), .int .u8 (d 6), .int .u8 (d 7), .int .u8 (d 8), .int .u8 (d 9), .int .u8 (d 10), .int .u8 (d 11), .int .u8 (d 12), .int .u8 (d 13), .int .u8 (d 14), .int .u8 (d 15), .int .u16 sp]
def outz : Array Value := outc false 0 (fun _ => 0) (fun _ => 0) 0
theorem out_one (v : Bool) (m : Int) (s d : Nat → Int) (sp : Int) : (outc v m s d sp).all (·.oneCell') = true := by simp [outc, Value.oneCell']
theorem outz_one : outz.all (·.oneCell') = true := out_one ..
theorem out_srcs {v : Bool} {m : Int} {s d : Nat → Int} {sp : Int} (k : Nat) (hk : k < 16) : (outc v m s d sp)[2 + k]? = some (.int .u8 (s k)) := by
  match k, hk with
  | 0, _ => rfl
  | 1, _ => rfl
  | 2, _ => rfl
  | 3, _ => rfl
  | 4, _ => rfl
  | 5, _ => rfl
  | 6, _ => rfl
  | 7, _ => rfl
  | 8, _ => rfl
  | 9, _ => rfl
  | 10, _ => rfl
  | 11, _ => rfl
  | 12, _ => rfl
  | 13, _ => rfl
  | 14, _ => rfl
  | 15, _ => rfl
  | k + 16, h => exact absurd h (by omega)
theorem out_dsts {v : Bool} {m : Int} {s d : Nat → Int} {sp : Int} (k : Nat) (hk : k < 16) : (outc v m s d sp)[18 + k]? = some (.int .u8 (d k)) := by
  match k, hk with
  | 0, _ => rfl
  | 1, _ => rfl
  | 2, _ => rfl
  | 3, _ => rfl
  | 4, _ => rfl
  | 5, _ => rfl
  | 6, _ => rfl
  | 7, _ => rfl
  | 8, _ => rfl
  | 9, _ => rfl
  | 10, _ => rfl
  | 11, _ => rfl
  | 12, _ => rfl
  | 13, _ => rfl
  | 14, _ => rfl
  | 15, _ => rfl
  | k + 16, h => exact absurd h (by omega)
theorem out_ext (v : Bool) (m : Int) {s d s' d' : Nat → Int} (sp : Int) (hs : ∀ k, k < 16 → s' k = s k) (hd : ∀ k, k < 16 → d' k = d k) : outc v m s' d' sp = outc v m s d sp := by
  unfold outc
  rw [hs 0 (by omega), hs 1 (by omega), hs 2 (by omega), hs 3 (by omega), hs 4 (by omega), hs 5 (by omega), hs 6 (by omega), hs 7 (by omega), hs 8 (by omega), hs 9 (by omega), hs 10 (by omega), hs 11 (by omega), hs 12 (by omega), hs 13 (by omega), hs 14 (by omega), hs 15 (by omega), hd 0 (by omega), hd 1 (by omega), hd 2 (by omega), hd 3 (by omega), hd 4 (by omega), hd 5 (by omega), hd 6 (by omega), hd 7 (by omega), hd 8 (by omega), hd 9 (by omega), hd 10 (by omega), hd 11 (by omega), hd 12 (by omega), hd 13 (by omega), hd 14 (by omega), hd 15 (by omega)]
/-- An IP packet that was opened. -/
def outs (s d : Nat → Int) (p : Int) (D : Value) : Array Value := #[.int .u8 (s 0), .int .u8 (s 1), .int .u8 (s 2), .int .u8 (s 3), .int .u8 (s 4), .int .u8 (s 5), .int .u8 (s 6), .int .u8 (s 7), .int .u8 (s 8), .int .u8 (s 9), .int .u8 (s 10), .int .u8 (s 11), .int .u8 (s 12), .int .u8 (s 13), .int .u8 (s 14), .int .u8 (s 15), .int .u8 (d 0), .int .u8 (d 1), .int .u8 (d 2), .int .u8 (d 3), .int .u8 (d 4), .int .u8 (d 5), .int .u8 (d 6), .int .u8 (d 7), .int .u8 (d 8), .int .u8 (d 9), .int .u8 (d 10), .int .u8 (d 11), .int .u8 (d 12), .int .u8 (d 13), .int .u8 (d 14), .int .u8 (d 15), .int .u8 p, D]
def outsz : Array Value := outs (fun _ => 0) (fun _ => 0) 0 (.slice none 0 0)
theorem outs_one (s d : Nat → Int) (p : Int) (A : Option Addr) (n c : Nat) : (outs s d p (.slice A n c)).all (·.oneCell') = true := by simp [outs, Value.oneCell']
theorem outsz_one : outsz.all (·.oneCell') = true := outs_one ..
theorem outs_srcs {s d : Nat → Int} {p : Int} {D : Value} (k : Nat) (hk : k < 16) : (outs s d p D)[0 + k]? = some (.int .u8 (s k)) := by
  match k, hk with
  | 0, _ => rfl
  | 1, _ => rfl
  | 2, _ => rfl
  | 3, _ => rfl
  | 4, _ => rfl
  | 5, _ => rfl
  | 6, _ => rfl
  | 7, _ => rfl
  | 8, _ => rfl
  | 9, _ => rfl
  | 10, _ => rfl
  | 11, _ => rfl
  | 12, _ => rfl
  | 13, _ => rfl
  | 14, _ => rfl
  | 15, _ => rfl
  | k + 16, h => exact absurd h (by omega)
theorem outs_dsts {s d : Nat → Int} {p : Int} {D : Value} (k : Nat) (hk : k < 16) : (outs s d p D)[16 + k]? = some (.int .u8 (d k)) := by
  match k, hk with
  | 0, _ => rfl
  | 1, _ => rfl
  | 2, _ => rfl
  | 3, _ => rfl
  | 4, _ => rfl
  | 5, _ => rfl
  | 6, _ => rfl
  | 7, _ => rfl
  | 8, _ => rfl
  | 9, _ => rfl
  | 10, _ => rfl
  | 11, _ => rfl
  | 12, _ => rfl
  | 13, _ => rfl
  | 14, _ => rfl
  | 15, _ => rfl
  | k + 16, h => exact absurd h (by omega)
/-- What is to be wrapped. -/
def wrpc (v : Bool) (m : Int) (s d : Nat → Int) (sp k : Int) (D : Value) : Array Value := #[.bool v, .int .u8 m, .int .u8 (s 0), .int .u8 (s 1), .int .u8 (s 2), .int .u8 (s 3), .int .u8 (s 4), .int .u8 (s 5), .int .u8 (s 6), .int .u8 (s 7), .int .u8 (s 8), .int .u8 (s 9), .int .u8 (s 10), .int .u8 (s 11), .int .u8 (s 12), .int .u8 (s 13), .int .u8 (s 14), .int .u8 (s 15), .int .u8 (d 0), .int .u8 (d 1), .int .u8 (d 2), .int .u8 (d 3), .int .u8 (d 4), .int .u8 (d 5), .int .u8 (d 6), .int .u8 (d 7), .int .u8 (d 8), .int .u8 (d 9), .int .u8 (d 10), .int .u8 (d 11), .int .u8 (d 12), .int .u8 (d 13), .int .u8 (d 14), .int .u8 (d 15), .int .u16 sp, .int .u8 k, D]
theorem wrp_one (v : Bool) (m : Int) (s d : Nat → Int) (sp k : Int) (A : Option Addr) (n c : Nat) : (wrpc v m s d sp k (.slice A n c)).all (·.oneCell') = true := by simp [wrpc, Value.oneCell']
def wrpz : Array Value := wrpc false 0 (fun _ => 0) (fun _ => 0) 0 0 (.slice none 0 0)
theorem wrp_outer {W : World} {g : Nat} {t : TypeId} {v : Bool} {m : Int} {s d : Nat → Int} {sp k : Int} {D : Value} (h : W.heap[g]? = some (.cells (wrpc v m s d sp k D) t (0, 0))) : W.rangeAt g 0 (outc v m s d sp).toList := by
  refine app_range (t := t) #[] (outc v m s d sp) #[.int .u8 k, D] rfl ?_
  rw [h]
  have e : wrpc v m s d sp k D = #[] ++ (outc v m s d sp) ++ #[.int .u8 k, D] := by kernel_rfl
  rw [e]
/-- Which outers may be. -/
def mayM (m sp : Int) : Bool := if m = 1 then decide (sp = 0) else if m = 2 then decide (49152 ≤ sp) else false
def mayO (v : Bool) (m : Int) (s d : Nat → Int) (sp : Int) : Bool := (v || (fourB s && fourB d)) && mayM m sp
/-- How many bytes stand ahead. -/
def ipN (v : Bool) : Nat := if v = true then 40 else 20
def wrN (v : Bool) (m : Int) : Nat := ipN v + (if m = 2 then 12 else 0)
def wrE (v : Bool) (m : Int) (s d : Nat → Int) (sp : Int) (n : Nat) (f : Nat → Int) : Int :=
  if mayO v m s d sp = false then 2 else if knd f n = 0 then 5 else if 1646 < wrN v m + n then 3 else 0
/-- What Unwrap tells. -/
def guE (v : Bool) (s d r : Nat → Int) (n : Nat) : Int :=
  if udpE v (psq v s d 17 n) r n ≠ 0 then udpE v (psq v s d 17 n) r n else if w2 r 2 ≠ 6080 then 10 else if n < 12 then 4 else if r 8 ≠ 0 ∨ r 10 ≠ 0 ∨ r 11 ≠ 0 then 5 else 0
def unE (v : Bool) (g : Nat → Int) (m : Nat) : Int :=
  if otE v g m ≠ 0 then otE v g m
  else if otP v g = 4 ∨ otP v g = 41 then (if knd (otF v g) (otR v g) ≠ otP v g then 5 else 0)
  else if otP v g = 17 then
    (if guE v (otS v g) (otD v g) (otF v g) (otR v g) ≠ 0 then guE v (otS v g) (otD v g) (otF v g) (otR v g) else if knd (fun k => otF v g (12 + k)) (otR v g - 12) ≠ otF v g 9 then 5 else 0)
  else 10
def unM (v : Bool) (g : Nat → Int) : Int := if otP v g = 17 then 2 else 1
def unP (v : Bool) (g : Nat → Int) : Int := if otP v g = 17 then w2 (otF v g) 0 else 0
def unN (v : Bool) (g : Nat → Int) : Nat := if otP v g = 17 then otR v g - 12 else otR v g
def unF (v : Bool) (g : Nat → Int) (k : Nat) : Int := if otP v g = 17 then otF v g (12 + k) else otF v g k
theorem fourB_is {s : Nat → Int} (h : fourB s = true) : ∀ k, k < 16 → s k = adr s k := fun k hk => (eqs_iff s (adr s) 16 0).1 h k (Nat.zero_le _) (by omega)
/-- Bytes g are an IP packet of a protocol, from s to d, around n bytes f. -/
def IpW (v : Bool) (P : Int) (s d : Nat → Int) (n : Nat) (f g : Nat → Int) : Prop :=
  (∀ k, g (ipN v + k) = f k) ∧ Byt g ∧ ∀ h : Nat → Int, Byt h → (∀ k, k < ipN v → h k = g k) → otE v h (ipN v + n) = 0 ∧ otP v h = P ∧ otA v h = ipN v ∧ otI v h = ipN v + n ∧ otR v h = n ∧ (∀ k, k < 16 → otS v h k = s k) ∧ ∀ k, k < 16 → otD v h k = d k
theorem ipW4 {P : Int} {s d : Nat → Int} {n : Nat} {f : Nat → Int} (hP : 0 ≤ P ∧ P ≤ 255) (hs : Byt s) (hd : Byt d) (h4 : fourB s = true) (h5 : fourB d = true) (hn : 20 + n ≤ 65535) (hf : Byt f) :
    IpW false P s d n f (cat (20 + 0) (hdr4 0 0 false 64 P s d 0 (fun _ => 0) (20 + 0 + n)) f) := by
  have hz := hdr0_byt (tos := 0) (id := 0) (df := false) (ttl := 64) (proto := P) (s := s) (d := d) (on := 0) (o := fun _ => 0) (total := 20 + 0 + n) ⟨by omega, by omega⟩ ⟨by omega, by omega⟩ ⟨by omega, by omega⟩ hP hs hd zer_byt (by omega) (by omega)
  have hb : Byt (hdr4 0 0 false 64 P s d 0 (fun _ => 0) (20 + 0 + n)) := by
    have q := ofv_bd hz (20 + 0)
    unfold hdr4
    exact upd_byt (upd_byt hz _ ⟨by omega, by omega⟩) _ ⟨by omega, by omega⟩
  refine ⟨fun k => ?_, cat_byt _ hb hf, fun h hh he => ?_⟩
  · show cat (20 + 0) _ f (20 + k) = f k
    rw [cat_ge (by omega)]
    congr 1
    omega
  · have q := ot4_wr (kd := P) (s := s) (d := d) (n := n) (g := h) (N := 20 + n) hP hs hd hn hh (Nat.le_refl _) (fun k hk => (he k hk).trans (cat_lt (by omega)))
    obtain ⟨a1, a2, a3, a4, a5, a6, a7⟩ := q
    refine ⟨a1, a2, a3, a4, a5, fun k hk => ?_, fun k hk => ?_⟩
    · rw [a6]; exact (fourB_is h4 k hk).symm
    · rw [a7]; exact (fourB_is h5 k hk).symm
theorem ipW6 {P : Int} {s d : Nat → Int} {n : Nat} {fo f : Nat → Int} (hP : 0 ≤ P ∧ P ≤ 255) (he : ext6 P = false) (hs : Byt s) (hd : Byt d) (hn : n ≤ 65535) (hf : Byt f) :
    IpW true P s d n f (cat (40 + 0) (cat 40 (hdr6 0 0 P 64 s d (0 + n)) fo) f) := by
  have hb := hdr6_byt (cls := 0) (lab := 0) (next := P) (hops := 64) (s := s) (d := d) (L := 0 + n) ⟨by omega, by omega⟩ ⟨by omega, by omega⟩ hP ⟨by omega, by omega⟩ hs hd (by omega)
  refine ⟨fun k => ?_, fun k => ?_, fun h hh he2 => ?_⟩
  · show cat (40 + 0) _ f (40 + k) = f k
    rw [cat_ge (by omega)]
    congr 1
    omega
  · by_cases c : k < 40
    · rw [cat_lt (by omega), cat_lt c]; exact hb k
    · rw [cat_ge (by omega)]; exact hf _
  · have q := ot6_wr (kd := P) (s := s) (d := d) (n := n) (g := h) (N := 40 + n) he hn (Nat.le_refl _) (fun k hk => (he2 k hk).trans ((cat_lt (by omega)).trans (cat_lt hk)))
    exact q
/-- What is wrapped. -/
structure Wd (v : Bool) (m : Int) (s d : Nat → Int) (sp : Int) (n : Nat) (f g : Nat → Int) : Prop where
  ok : unE v g (wrN v m + n) = 0
  mode : unM v g = m
  src : ∀ k, k < 16 → otS v g k = s k
  dst : ∀ k, k < 16 → otD v g k = d k
  port : unP v g = sp
  len : unN v g = n
  byt : Byt g
  low : ∀ k, g (wrN v m + k) = f k
  alt : ∀ h : Nat → Int, Byt h → (∀ k, k < wrN v m → h k = g k) → unN v h = n ∧ ∀ k, unF v h k = h (wrN v m + k)
theorem wd_ipip {v : Bool} {s d : Nat → Int} {n : Nat} {f g : Nat → Int} (hk : knd f n ≠ 0) (h : IpW v (knd f n) s d n f g) : Wd v 1 s d 0 n f g := by
  obtain ⟨h1, h2, h3⟩ := h
  have hN : wrN v 1 = ipN v := by unfold wrN; rw [if_neg (by decide)]; rfl
  have hk2 := knd_or f n
  have key : ∀ h : Nat → Int, Byt h → (∀ k, k < ipN v → h k = g k) → unN v h = n ∧ ∀ k, unF v h k = h (ipN v + k) := fun h hh he => by
    obtain ⟨_, a2, a3, _, a5, _⟩ := h3 h hh he
    have c : ¬ otP v h = 17 := by rw [a2]; omega
    refine ⟨by unfold unN; rw [if_neg c, a5], fun k => ?_⟩
    unfold unF otF
    rw [if_neg c, a3]
  obtain ⟨a1, a2, a3, a4, a5, a6, a7⟩ := h3 g h2 (fun _ _ => rfl)
  have c : ¬ otP v g = 17 := by rw [a2]; omega
  have hF : otF v g = f := by funext k; unfold otF; rw [a3]; exact h1 k
  refine ⟨?_, by unfold unM; rw [if_neg c], a6, a7, by unfold unP; rw [if_neg c], (key g h2 fun _ _ => rfl).1, h2, fun k => by rw [hN]; exact h1 k, fun h hh he => ?_⟩
  · unfold unE
    rw [hN, if_neg (by rw [a1]; decide), if_pos (by rw [a2]; omega), hF, a5, a2, if_neg (by simp)]
  · rw [hN] at he ⊢
    exact key h hh he
theorem psq_ext (v : Bool) {s d s' d' : Nat → Int} (hs : ∀ k, k < 16 → s' k = s k) (hd : ∀ k, k < 16 → d' k = d k) (pr : Int) (n : Nat) : psq v s' d' pr n = psq v s d pr n := by
  unfold psq
  cases v
  · show (fld (head4 pr ((n : Int) % 4294967296)) (fld d' (fld s' (0, false) 4) 4) 4).1 = (fld (head4 pr ((n : Int) % 4294967296)) (fld d (fld s (0, false) 4) 4) 4).1
    rw [fld_same _ 4 (fun k hk => hs k (by omega)), fld_same _ 4 (fun k hk => hd k (by omega))]
  · show (fld (head6 pr ((n : Int) % 4294967296)) (fld d' (fld s' (0, false) 16) 16) 8).1 = (fld (head6 pr ((n : Int) % 4294967296)) (fld d (fld s (0, false) 16) 16) 8).1
    rw [fld_same _ 16 (fun k hk => hs k hk), fld_same _ 16 (fun k hk => hd k hk)]
theorem guE_ext (v : Bool) {s d s' d' : Nat → Int} (hs : ∀ k, k < 16 → s' k = s k) (hd : ∀ k, k < 16 → d' k = d k) (r : Nat → Int) (n : Nat) : guE v s' d' r n = guE v s d r n := by
  unfold guE
  rw [psq_ext v hs hd]
theorem wd_gue {v : Bool} {s d : Nat → Int} {sp : Int} {n : Nat} {f u g : Nat → Int} (hs : Byt s) (hd : Byt d) (hsp : 0 ≤ sp ∧ sp ≤ 65535) (hf : Byt f) (hn : 12 + n ≤ 1660)
    (hu : u = udpB sp 6080 (8 + ((4 + n : Nat) : Int)) (udpS false (psq v s d 17 (8 + (4 + n))) (udpB sp 6080 (8 + ((4 + n : Nat) : Int)) 0 (cat 4 (four 0 (knd f n) 0 0) f)) (8 + (4 + n))) (cat 4 (four 0 (knd f n) 0 0) f))
    (h : IpW v 17 s d (8 + (4 + n)) u g) : Wd v 2 s d sp n f g := by
  obtain ⟨h1, h2, h3⟩ := h
  have hN : wrN v 2 = ipN v + 12 := by unfold wrN; rw [if_pos rfl]
  have hk2 := knd_or f n
  have hpb : Byt (cat 4 (four 0 (knd f n) 0 0) f) := cat_byt 4 (fun k => by unfold four; split <;> (try split) <;> (try split) <;> omega) hf
  obtain ⟨b1, b2, b3, b4⟩ := udp_back (v6 := v) (ns := false) (sp := sp) (dp := 6080) (S := psq v s d 17 (8 + (4 + n))) (n := 4 + n) (f := cat 4 (four 0 (knd f n) 0 0) f) hsp ⟨by omega, by omega⟩ hpb (psq_bd v hs hd (by omega) (by omega) _) (by
    unfold udpX
    rw [if_neg (by simp), if_neg (by omega)]) u hu
  have key : ∀ h : Nat → Int, Byt h → (∀ k, k < ipN v → h k = g k) → unN v h = n ∧ ∀ k, unF v h k = h (ipN v + 12 + k) := fun h hh he => by
    obtain ⟨_, a2, a3, _, a5, _⟩ := h3 h hh he
    refine ⟨by unfold unN; rw [if_pos a2, a5]; omega, fun k => ?_⟩
    unfold unF otF
    rw [if_pos a2, a3]
    congr 1
    omega
  obtain ⟨a1, a2, a3, a4, a5, a6, a7⟩ := h3 g h2 (fun _ _ => rfl)
  have hF : otF v g = u := by funext k; unfold otF; rw [a3]; exact h1 k
  have c0 : u 8 = 0 := (b4 0).trans (by unfold cat four; simp)
  have c1 : u 9 = knd f n := (b4 1).trans (by unfold cat four; simp)
  have c2 : u 10 = 0 := (b4 2).trans (by unfold cat four; simp)
  have c3 : u 11 = 0 := (b4 3).trans (by unfold cat four; simp)
  have c4 : ∀ k, u (12 + k) = f k := fun k => by
    have e := b4 (4 + k)
    rw [show 8 + (4 + k) = 12 + k by omega, cat_ge (by omega), show 4 + k - 4 = k by omega] at e
    exact e
  have d0 : w2 u 0 = sp ∧ w2 u 2 = 6080 := by
    have e := b3
    unfold udpc at e
    simp at e
    exact ⟨e.1, e.2.1⟩
  refine ⟨?_, by unfold unM; rw [if_pos a2], a6, a7, by unfold unP; rw [if_pos a2, hF]; exact d0.1, (key g h2 fun _ _ => rfl).1, h2, fun k => ?_, fun h hh he => ?_⟩
  · have hG : guE v s d u (8 + (4 + n)) = 0 := by
      unfold guE
      rw [if_neg (by rw [b2]; decide), if_neg (by rw [d0.2]; decide), if_neg (by omega), if_neg (by rw [c0, c2, c3]; simp)]
    unfold unE
    rw [hN, show ipN v + 12 + n = ipN v + (8 + (4 + n)) by omega, if_neg (by rw [a1]; decide), if_neg (by rw [a2]; decide), if_pos a2, hF, a5, guE_ext v a6 a7, if_neg (by rw [hG]; decide), c1]
    have e : (fun k => u (12 + k)) = f := funext c4
    rw [e, show 8 + (4 + n) - 12 = n by omega, if_neg (by simp)]
  · rw [hN, Nat.add_assoc, h1, c4]
  · rw [hN] at he ⊢
    exact key h hh (fun k hk => he k (by omega))
theorem mayO_ok {v : Bool} {m : Int} {s d : Nat → Int} {sp : Int} (h : mayO v m s d sp = true) : (v = false → fourB s = true ∧ fourB d = true) ∧ ((m = 1 ∧ sp = 0) ∨ (m = 2 ∧ 49152 ≤ sp)) := by
  unfold mayO mayM at h
  refine ⟨fun e => ?_, ?_⟩
  · subst e
    simp at h
    exact h.1
  · by_cases c : m = 1
    · rw [if_pos c] at h
      simp at h
      exact .inl ⟨c, h.2⟩
    · rw [if_neg c] at h
      by_cases c2 : m = 2
      · rw [if_pos c2] at h
        simp at h
        exact .inr ⟨c2, h.2⟩
      · rw [if_neg c2] at h
        simp at h
/-- Bytes that differ are strings that do. -/
theorem str_ne {n : Nat} {f g : Nat → Int} (hf : Byt f) (hg : Byt g) (j : Nat) (hj : j < n) (h : g j ≠ f j) : strOfNums (nums n g) ≠ strOfNums (nums n f) := fun e => by
  have e1 := congrArg (fun b => b.data.toList[j]?) e
  simp only [strOfNums_data, nums, List.getElem?_map, List.getElem?_range hj, Option.map_some, Option.some.injEq] at e1
  have e2 := congrArg UInt8.toNat e1
  have p := hf j
  have q := hg j
  simp only [UInt8.toNat_ofNat'] at e2
  omega
end Go.Proofs.Ythjgecdnlpdcdaa
