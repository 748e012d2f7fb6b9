import Derived.Test.YtimcdnbfdkpffaaGreatGm4
import Derived.Laws.IdiomStrings
import Derived.Test.YtimcdnbfdkpffaaGreatGm1
import Derived.Test.YtimcdnbfdkpffaaGreatGm0
/- Stage 12: the document's hashes of bytes and of texts. -/
namespace Go.Proofs.YtimcdnbfdkpffaaGreat
set_option maxRecDepth 100000
open Go.RowKit Go.Shelf
/-- Bytes as numbers. -/
def nb (f : Nat → Int) (k : Nat) : Nat := (f k).toNat
theorem nb_int {f : Nat → Int} (hf : Byt f) (k : Nat) : ((nb f k : Nat) : Int) = f k := Int.toNat_of_nonneg (hf k).1
theorem nb_lt {f : Nat → Int} (hf : Byt f) (k : Nat) : nb f k < 256 := by
  have h1 := nb_int hf k
  have h2 := hf k
  omega
theorem seedN_eq (seed : Nat) (f : Nat → Nat) (m : Nat) : seedN seed f m = mixN (fnvN f m ^^^ mixN seed) := rfl
end Go.Proofs.YtimcdnbfdkpffaaGreat
/- Stage 16: a flow's tuple: its fields, its cells, its hash; compared; opened. -/
namespace Go.Proofs.YtimcdnbfdkpffaaGreat
set_option maxRecDepth 100000
open Go.ChangeShapes Go.WideShapes Go.ChangeAt Go.RowKit
structure Tp where
  v6 : Bool
  pr : Int
  s : Nat → Int
  d : Nat → Int
  sp : Int
  dp : Int
namespace Tp
structure Ok (t : Tp) : Prop where
  pr : 0 ≤ t.pr ∧ t.pr ≤ 255
  s : Byt t.s
  d : Byt t.d
  sp : 0 ≤ t.sp ∧ t.sp ≤ 65535
  dp : 0 ≤ t.dp ∧ t.dp ≤ 65535
  zs : ∀ k, 16 ≤ k → t.s k = 0
  zd : ∀ k, 16 ≤ k → t.d k = 0
def c (t : Tp) : Array Value := tupc t.v6 t.pr t.s t.d t.sp t.dp
def h (t : Tp) : Nat := seedN 0 (nb (tupB t.v6 t.pr t.s t.d t.sp t.dp)) (tlen t.v6)
def eq (a b : Tp) : Bool := a.v6 == b.v6 && (a.pr == b.pr && (eqs a.s b.s 0 16 && (eqs a.d b.d 0 16 && (a.sp == b.sp && (a.dp == b.dp && true)))))
theorem h_lt (t : Tp) : t.h < 18446744073709551616 := mix_lt _
theorem eq_iff {a b : Tp} (ha : a.Ok) (hb : b.Ok) : a.eq b = true ↔ a = b := by
  unfold eq
  simp only [Bool.and_eq_true, beq_iff_eq, eqs_iff, and_true]
  constructor
  · rintro ⟨h1, h2, h3, h4, h5, h6⟩
    have e1 : a.s = b.s := funext fun k => by
      rcases Nat.lt_or_ge k 16 with q | q
      · exact h3 k (Nat.zero_le _) (by omega)
      · rw [ha.zs k q, hb.zs k q]
    have e2 : a.d = b.d := funext fun k => by
      rcases Nat.lt_or_ge k 16 with q | q
      · exact h4 k (Nat.zero_le _) (by omega)
      · rw [ha.zd k q, hb.zd k q]
    obtain ⟨a1, a2, a3, a4, a5, a6⟩ := a
    obtain ⟨b1, b2, b3, b4, b5, b6⟩ := b
    obtain rfl : a1 = b1 := h1
    obtain rfl : a2 = b2 := h2
    obtain rfl : a3 = b3 := e1
    obtain rfl : a4 = b4 := e2
    obtain rfl : a5 = b5 := h5
    obtain rfl : a6 = b6 := h6
    rfl
  · rintro rfl
    exact ⟨rfl, rfl, fun _ _ _ => rfl, fun _ _ _ => rfl, rfl, rfl⟩
theorem c_size (t : Tp) : t.c.size = 36 := rfl
theorem c_one (t : Tp) : t.c.all (·.oneCell') = true := tup_one ..
end Tp
/-- A field compared, then the others. -/
theorem eqF_go {P : Program} {d : Nat} {xs ys : Array Value} {f : Field} {fs : List Field} {x y : Value} {b c : Bool} {w : World} (hn : f.name ≠ "_") (hx : (part f.type xs f.offset).run P w = .ok x w) (hy : (part f.type ys f.offset).run P w = .ok y w)
    (he : (Op.equalIn d f.type x y).run P w = .ok b w) (hr : (Op.eqFields d xs ys fs).run P w = .ok c w) : (Op.eqFields d xs ys (f :: fs)).run P w = .ok (b && c) w := by
  simp only [Op.eqFields, if_pos hn, Sem.run_bind, hx, hy, he, Result.andThen_ok]
  cases b with
  | false => rfl
  | true => exact hr
theorem eqF_nil {P : Program} {d : Nat} {xs ys : Array Value} {w : World} : (Op.eqFields d xs ys []).run P w = .ok true w := rfl
theorem eqTp (n : Nat) (a b : Tp) (w : World) : (Op.equalIn (n + 3) 38 (.agg a.c) (.agg b.c)).run Tryz.prog w = .ok (a.eq b) w := by
  have hf : Tryz.prog.underlying 38 = some (.struct (Tryz.prog.fieldsOf 38)) := by kernel_rfl
  rw [run_equalIn_struct w (n + 2) 38 _ _ hf (by kernel_rfl)]
  have hl : (Tryz.prog.fieldsOf 38).toList = [{ name := "V6", type := 4, offset := 0, embedded := false, tag := "", pkgPath := "", byteOffset := 0 }, { name := "Proto", type := 5, offset := 1, embedded := false, tag := "", pkgPath := "", byteOffset := 1 }, { name := "Src", type := 35, offset := 2, embedded := false, tag := "", pkgPath := "", byteOffset := 2 }, { name := "Dst", type := 35, offset := 18, embedded := false, tag := "", pkgPath := "", byteOffset := 18 }, { name := "SPort", type := 36, offset := 34, embedded := false, tag := "", pkgPath := "", byteOffset := 34 }, { name := "DPort", type := 36, offset := 35, embedded := false, tag := "", pkgPath := "", byteOffset := 36 }] := by kernel_rfl
  rw [hl]
  have e16 : ∀ x y : Nat → Int, (Op.equalIn (n + 2) 35 (.agg (arr16 x)) (.agg (arr16 y))).run Tryz.prog w = .ok (eqs x y 0 16) w := fun x y =>
    equal_bytes (P := Tryz.prog) n 35 5 16 (arr16 x) (arr16 y) x y Tryz.underlying35 Tryz.underlying5 (by kernel_rfl) (fun k hk => arr16_get x k hk) (fun k hk => arr16_get y k hk) w
  have q : ∀ t : Tp, (part 4 t.c 0).run Tryz.prog w = .ok (.bool t.v6) w ∧ (part 5 t.c 1).run Tryz.prog w = .ok (.int .u8 t.pr) w ∧ (part 35 t.c 2).run Tryz.prog w = .ok (.agg (arr16 t.s)) w ∧ (part 35 t.c 18).run Tryz.prog w = .ok (.agg (arr16 t.d)) w ∧ (part 36 t.c 34).run Tryz.prog w = .ok (.int .u16 t.sp) w ∧ (part 36 t.c 35).run Tryz.prog w = .ok (.int .u16 t.dp) w := fun t => ⟨by kernel_rfl, by kernel_rfl, by kernel_rfl, by kernel_rfl, by kernel_rfl, by kernel_rfl⟩
  obtain ⟨a1, a2, a3, a4, a5, a6⟩ := q a
  obtain ⟨b1, b2, b3, b4, b5, b6⟩ := q b
  exact eqF_go (by decide) a1 b1 (run_equalIn_bool' (P := Tryz.prog) w (n + 1) 4 _ _ Tryz.underlying4) (eqF_go (by decide) a2 b2 (run_equalIn_int (P := Tryz.prog) w (n + 1) 5 .u8 .u8 _ _ Tryz.underlying5) (eqF_go (by decide) a3 b3 (e16 _ _) (eqF_go (by decide) a4 b4 (e16 _ _) (eqF_go (by decide) a5 b5 (run_equalIn_int (P := Tryz.prog) w (n + 1) 36 .u16 .u16 _ _ Tryz.underlying36) (eqF_go (by decide) a6 b6 (run_equalIn_int (P := Tryz.prog) w (n + 1) 36 .u16 .u16 _ _ Tryz.underlying36) eqF_nil)))))
end Go.Proofs.YtimcdnbfdkpffaaGreat
/- Stage 16's pure words: flows as the document defines them, what their calls do, and what always holds. -/
namespace Go.Proofs.YtimcdnbfdkpffaaGreat
set_option maxRecDepth 100000
/-- Whose a flow is. -/
structure Pn where
  v : ByteArray
  n : ByteArray
  life : Nat
/-- A flow, and its timer's handle. -/
structure Fr where
  t : Tp
  p : Pn
  st : Nat
  due : Nat
  i : Nat
  k : Nat
structure Fl where
  l : List Fr
  w : Wh
  g : Gr
  o1 : Nat
  o2 : Nat
  o3 : Nat
  o4 : Nat
namespace Fl
/-- The flow whose timer has an index. -/
def ix (l : List Fr) (x : Nat) : Option Fr := l.find? fun r => r.i == x
def pf (l : List Fr) (x : Nat) : Bool := (ix l x).isSome
def hf (l : List Fr) (x : Nat) : Nat := match ix l x with
  | some r => r.t.h
  | none => 0
def rem (l : List Fr) (x : Nat) : List Fr := l.filter fun r => r.i != x
def upd (l : List Fr) (x st due : Nat) : List Fr := l.map fun r => if r.i == x then ⟨r.t, r.p, st, due, r.i, r.k⟩ else r
def get (s : Fl) (t : Tp) : Option Fr := s.l.find? fun r => r.t.eq t
def tk (s : Fl) (st : Nat) : Nat := fsK s.o1 s.o2 s.o3 s.o4 st
def dueN (s : Fl) (st : Nat) : Nat := s.w.now + s.tk st
def new (c m a b x d : Nat) : Fl := ⟨[], Wh.new c, Gr.new m, a, b, x, d⟩
def pinE (s : Fl) (t : Tp) (st : Nat) : Int := if fsM st = true then (match s.get t with
  | some _ => 8
  | none => match s.w.a.which with
    | none => 9
    | some _ => s.g.ptE t.h) else 2
def pin (s : Fl) (t : Tp) (p : Pn) (st : Nat) : Fl := if fsM st = true then (match s.get t with
  | some _ => s
  | none => match s.w.a.which with
    | none => s
    | some i => if s.g.ptE t.h = 0 then ⟨s.l ++ [⟨t, p, st, s.dueN st, i, s.w.a.serial + 1⟩], s.w.arm (s.dueN st) 0, s.g.pt t.h i, s.o1, s.o2, s.o3, s.o4⟩
      else ⟨s.l, (s.w.arm (s.dueN st) 0).cancel (i : Int) (s.w.a.serial + 1), s.g.pt t.h i, s.o1, s.o2, s.o3, s.o4⟩) else s
def touE (s : Fl) (t : Tp) (st : Nat) : Int := if fsM st = true then (match s.get t with
  | none => 7
  | some _ => 0) else 2
def tou (s : Fl) (t : Tp) (st : Nat) : Fl := if fsM st = true then (match s.get t with
  | none => s
  | some r => ⟨upd s.l r.i st (s.dueN st), s.w.again (r.i : Int) r.k (s.dueN st), s.g, s.o1, s.o2, s.o3, s.o4⟩) else s
def endE (s : Fl) (t : Tp) : Int := match s.get t with
  | none => 7
  | some _ => 0
def endd (s : Fl) (t : Tp) : Fl := match s.get t with
  | none => s
  | some r => ⟨rem s.l r.i, s.w.cancel (r.i : Int) r.k, s.g.dr r.t.h r.i, s.o1, s.o2, s.o3, s.o4⟩
/-- What goes with timers that fired. -/
def rows (l : List Fr) (ts : List Tm) : List Fr := ts.filterMap fun t => ix l t.i
def gones (l : List Fr) (ts : List Tm) : List Fr := ts.foldl (fun l t => rem l t.i) l
def dropG (g : Gr) (rs : List Fr) : Gr := rs.foldl (fun g r => g.dr r.t.h r.i) g
def out (s : Fl) : List Fr := rows s.l s.w.told
def tick (s : Fl) : Fl := ⟨gones s.l s.w.told, s.w.tick, dropG s.g s.out, s.o1, s.o2, s.o3, s.o4⟩
def mvG : Nat → Gr → Gr
  | 0, g => g
  | n + 1, g => if 0 < g.left then mvG n g.st else g
def mvN : Nat → Gr → Nat
  | 0, _ => 0
  | n + 1, g => if 0 < g.left then mvN n g.st + 1 else 0
def mov (s : Fl) (n : Nat) : Fl := ⟨s.l, s.w, mvG n s.g, s.o1, s.o2, s.o3, s.o4⟩
def set (s : Fl) (a b c d : Nat) : Fl := if fsT a b c d = true then ⟨s.l, s.w, s.g, a, b, c, d⟩ else s
/-- All flows, by their timers' indices. -/
def allU (l : List Fr) (n : Nat) : List Fr := (List.range n).filterMap fun x => ix l x
def all (s : Fl) : List Fr := allU s.l s.w.a.has.length
theorem ix_some {l : List Fr} {x : Nat} {r : Fr} (h : ix l x = some r) : r ∈ l ∧ r.i = x :=
  ⟨List.mem_of_find?_eq_some h, beq_iff_eq.1 (List.find?_some (p := fun r : Fr => r.i == x) h)⟩
theorem ix_none {l : List Fr} {x : Nat} : ix l x = none ↔ ∀ r, r ∈ l → r.i ≠ x := by
  unfold ix
  rw [List.find?_eq_none]
  exact ⟨fun h r hr e => h r hr (beq_iff_eq.2 e), fun h r hr e => h r hr (beq_iff_eq.1 e)⟩
theorem ix_mem : ∀ {l : List Fr} {r : Fr}, (l.map Fr.i).Nodup → r ∈ l → ix l r.i = some r
  | a :: l, r, hn, hr => by
    rw [List.map_cons, List.nodup_cons] at hn
    unfold ix
    rw [List.find?_cons]
    rcases List.mem_cons.1 hr with e | e
    · rw [← e, beq_self_eq_true]
    · have : (a.i == r.i) = false := beq_eq_false_iff_ne.2 fun e2 => hn.1 (by rw [e2]; exact List.mem_map_of_mem e)
      rw [this]
      exact ix_mem hn.2 e
theorem pf_iff {l : List Fr} {x : Nat} : pf l x = true ↔ ∃ r, r ∈ l ∧ r.i = x := by
  unfold pf
  cases h : ix l x with
  | none =>
    refine ⟨fun e => (by cases e), fun ⟨r, h1, h2⟩ => absurd h2 (ix_none.1 h r h1)⟩
  | some r => exact ⟨fun _ => ⟨r, ix_some h⟩, fun _ => rfl⟩
theorem hf_mem {l : List Fr} {r : Fr} (hn : (l.map Fr.i).Nodup) (hr : r ∈ l) : hf l r.i = r.t.h := by
  unfold hf
  rw [ix_mem hn hr]
theorem mem_rem {l : List Fr} {x : Nat} {r : Fr} : r ∈ rem l x ↔ r ∈ l ∧ r.i ≠ x := by
  unfold rem
  rw [List.mem_filter, bne_iff_ne]
theorem ix_rem : ∀ (l : List Fr) (x y : Nat), ix (rem l x) y = if y = x then none else ix l y := fun l x y => by
  by_cases e : y = x
  · rw [if_pos e]
    exact ix_none.2 fun r hr => by
      rw [e]
      exact (mem_rem.1 hr).2
  · rw [if_neg e]
    unfold ix rem
    rw [List.find?_filter]
    congr 1
    funext r
    by_cases q : r.i = y
    · have : (r.i != x) = true := bne_iff_ne.2 (by rw [q]; exact e)
      rw [this]
      cases r.i == y <;> rfl
    · have : (r.i == y) = false := beq_eq_false_iff_ne.2 q
      rw [this]
      cases r.i != x <;> rfl
theorem ix_app (l : List Fr) (r : Fr) (y : Nat) (h : ix l r.i = none) : ix (l ++ [r]) y = if y = r.i then some r else ix l y := by
  have e : ix (l ++ [r]) y = (ix l y).or (if r.i == y then some r else none) := by
    unfold ix
    rw [List.find?_append, List.find?_cons, List.find?_nil]
    cases r.i == y <;> rfl
  rw [e]
  by_cases q : y = r.i
  · rw [q, if_pos rfl, h, beq_self_eq_true]
    rfl
  · rw [if_neg q, beq_eq_false_iff_ne.2 (fun e => q e.symm)]
    cases ix l y <;> rfl
theorem mem_upd {l : List Fr} {x st due : Nat} {q : Fr} : q ∈ upd l x st due ↔ ∃ r, r ∈ l ∧ q = if r.i == x then ⟨r.t, r.p, st, due, r.i, r.k⟩ else r := by
  unfold upd
  rw [List.mem_map]
  exact ⟨fun ⟨r, h1, h2⟩ => ⟨r, h1, h2.symm⟩, fun ⟨r, h1, h2⟩ => ⟨r, h1, h2.symm⟩⟩
theorem upd_f {r : Fr} {x st due : Nat} : (if r.i == x then (⟨r.t, r.p, st, due, r.i, r.k⟩ : Fr) else r).i = r.i ∧ (if r.i == x then (⟨r.t, r.p, st, due, r.i, r.k⟩ : Fr) else r).t = r.t ∧ (if r.i == x then (⟨r.t, r.p, st, due, r.i, r.k⟩ : Fr) else r).k = r.k ∧ (if r.i == x then (⟨r.t, r.p, st, due, r.i, r.k⟩ : Fr) else r).p = r.p := by
  split <;> exact ⟨rfl, rfl, rfl, rfl⟩
theorem upd_i (l : List Fr) (x st due : Nat) : (upd l x st due).map Fr.i = l.map Fr.i := by
  unfold upd
  rw [List.map_map]
  exact List.map_congr_left fun r _ => upd_f.1
theorem upd_t (l : List Fr) (x st due : Nat) : (upd l x st due).map Fr.t = l.map Fr.t := by
  unfold upd
  rw [List.map_map]
  exact List.map_congr_left fun r _ => upd_f.2.1
theorem pf_map {l l' : List Fr} (h : l'.map Fr.i = l.map Fr.i) : pf l' = pf l := funext fun x => by
  rw [Bool.eq_iff_iff, pf_iff, pf_iff]
  have e : ∀ {a : List Fr}, (∃ r, r ∈ a ∧ r.i = x) ↔ x ∈ a.map Fr.i := List.mem_map.symm
  rw [e, e, h]
/-- What always holds. -/
structure Ok (s : Fl) : Prop where
  w : s.w.Ok
  c : s.w.a.has.length ≤ 256
  g : Gr.Kg (hf s.l) s.g (pf s.l)
  t : ∀ r, r ∈ s.l → r.t.Ok
  nt : (s.l.map Fr.t).Nodup
  ni : (s.l.map Fr.i).Nodup
  ent : ∀ r, r ∈ s.l → ∃ t, t ∈ s.w.l ∧ t.i = r.i ∧ t.k = r.k ∧ t.at_ = r.due
  all : ∀ t, t ∈ s.w.l → ∃ r, r ∈ s.l ∧ r.i = t.i
  o : fsT s.o1 s.o2 s.o3 s.o4 = true
  now : s.w.now ≤ 4611686018427387904
theorem get_some {s : Fl} (h : s.Ok) {t : Tp} (ht : t.Ok) {r : Fr} (hg : s.get t = some r) : r ∈ s.l ∧ r.t = t := by
  have h1 := List.mem_of_find?_eq_some hg
  exact ⟨h1, (Tp.eq_iff (h.t r h1) ht).1 (List.find?_some (p := fun r : Fr => r.t.eq t) hg)⟩
theorem get_none {s : Fl} (h : s.Ok) {t : Tp} (ht : t.Ok) : s.get t = none ↔ ∀ r, r ∈ s.l → r.t ≠ t := by
  unfold get
  rw [List.find?_eq_none]
  exact ⟨fun q r hr e => q r hr ((Tp.eq_iff (h.t r hr) ht).2 e), fun q r hr e => q r hr ((Tp.eq_iff (h.t r hr) ht).1 e)⟩
theorem one_t : ∀ {l : List Fr}, (l.map Fr.t).Nodup → ∀ {a b : Fr}, a ∈ l → b ∈ l → a.t = b.t → a = b
  | x :: l, hn, a, b, ha, hb, e => by
    rw [List.map_cons, List.nodup_cons] at hn
    rcases List.mem_cons.1 ha with q | q <;> rcases List.mem_cons.1 hb with p | p
    · rw [q, p]
    · exact absurd (List.mem_map_of_mem (f := Fr.t) p) (by rw [← e, q]; exact hn.1)
    · exact absurd (List.mem_map_of_mem (f := Fr.t) q) (by rw [e, p]; exact hn.1)
    · exact one_t hn.2 q p e
theorem get_mem {s : Fl} (h : s.Ok) {r : Fr} (hr : r ∈ s.l) : s.get r.t = some r := by
  cases hg : s.get r.t with
  | none => exact absurd rfl ((get_none h (h.t r hr)).1 hg r hr)
  | some q =>
    obtain ⟨h1, h2⟩ := get_some h (h.t r hr) hg
    rw [one_t h.nt h1 hr h2]
theorem one_i {l : List Fr} (hn : (l.map Fr.i).Nodup) {a b : Fr} (ha : a ∈ l) (hb : b ∈ l) (e : a.i = b.i) : a = b := by
  have h1 := ix_mem hn ha
  rw [e, ix_mem hn hb] at h1
  injection h1 with h1
  exact h1.symm
/-- A flow's timer is live, and it is its own. -/
theorem Ok.live {s : Fl} (h : s.Ok) {r : Fr} (hr : r ∈ s.l) : s.w.a.live (r.i : Int) r.k = true ∧ s.w.a.at_ r.i = r.k ∧ r.k ≠ 0 ∧ r.i < s.w.a.has.length := by
  obtain ⟨t, ht, h1, h2, h3⟩ := h.ent r hr
  obtain ⟨h4, h5⟩ := h.w.ent t ht
  rw [h1, h2] at h4
  rw [h2] at h5
  refine ⟨Ar.live_iff.2 ⟨by omega, h5, h4⟩, h4, h5, ?_⟩
  rcases Nat.lt_or_ge r.i s.w.a.has.length with q | q
  · exact q
  · rw [Ar.at_out q] at h4
    exact absurd h4.symm h5
theorem Ok.row {s : Fl} (h : s.Ok) {t : Tm} (ht : t ∈ s.w.l) : ∃ r, r ∈ s.l ∧ r.i = t.i ∧ r.k = t.k ∧ r.due = t.at_ := by
  obtain ⟨r, hr, e⟩ := h.all t ht
  obtain ⟨u, hu, h1, h2, h3⟩ := h.ent r hr
  obtain rfl := Wh.one_of h.w.nd hu ht (h1.trans e)
  exact ⟨r, hr, e, h2.symm, h3.symm⟩
theorem fsM_iff {st : Nat} : fsM st = true ↔ 1 ≤ st ∧ st ≤ 4 := by
  unfold fsM
  simp
theorem Ok.tk {s : Fl} (h : s.Ok) {st : Nat} (hs : fsM st = true) : 1 ≤ s.tk st ∧ s.tk st ≤ 1048576 := by
  have h1 := h.o
  have h2 := fsM_iff.1 hs
  unfold fsT fsT1 at h1
  simp at h1
  unfold Fl.tk fsK
  rcases (show st = 1 ∨ st = 2 ∨ st = 3 ∨ st = 4 by omega) with rfl | rfl | rfl | rfl
  · exact h1.1
  · exact h1.2.1
  · exact h1.2.2.1
  · exact h1.2.2.2
theorem Ok.over {s : Fl} (h : s.Ok) {st : Nat} (hs : fsM st = true) : s.w.over (s.dueN st) = false ∧ s.w.nxt (s.dueN st) = s.dueN st ∧ s.dueN st < 18446744073709551616 ∧ s.w.now < s.dueN st := by
  obtain ⟨h1, h2⟩ := h.tk hs
  have h3 := h.now
  have e : s.dueN st = s.w.now + s.tk st := rfl
  refine ⟨?_, ?_, by omega, by omega⟩
  · unfold Wh.over Wh.lastT
    have q1 : decide (s.w.now = 18446744073709551615) = false := decide_eq_false (by omega)
    have q2 : decide (4294967296 ≤ s.dueN st - s.w.now) = false := decide_eq_false (by omega)
    rw [q1, q2, Bool.and_false]
    rfl
  · unfold Wh.nxt
    rw [if_neg (by omega)]
theorem Ok.arm {s : Fl} (h : s.Ok) {st : Nat} (hs : fsM st = true) : s.w.armE (s.dueN st) = (match s.w.a.which with
    | none => 9
    | some _ => 0) ∧ s.w.armH (s.dueN st) = (match s.w.a.which with
    | none => #[.int .i64 0, .int .u64 0]
    | some i => #[.int .i64 (i : Int), .int .u64 ((s.w.a.serial : Int) + 1)]) ∧ s.w.arm (s.dueN st) 0 = (match s.w.a.which with
    | none => s.w
    | some i => ⟨s.w.a.taken i, s.w.l ++ [⟨i, s.w.a.serial + 1, s.dueN st, 0⟩], s.w.now, s.w.tn + 1⟩) := by
  obtain ⟨h1, h2, h3⟩ := h.over hs
  unfold Wh.armE Wh.armH Wh.arm
  rw [if_neg (by rw [h1]; decide), if_neg (by rw [h1]; decide), if_neg (by rw [h1]; decide), h2]
  exact ⟨rfl, rfl, rfl⟩
theorem fresh_i {s : Fl} (h : s.Ok) {i : Nat} (hw : s.w.a.which = some i) : (∀ r, r ∈ s.l → r.i ≠ i) ∧ ∀ t, t ∈ s.w.l → t.i ≠ i := by
  have h0 := Ar.which_at h.w.a hw
  refine ⟨fun r hr e => ?_, fun t ht e => ?_⟩
  · obtain ⟨_, q2, q3, _⟩ := h.live hr
    rw [e] at q2
    omega
  · obtain ⟨q1, q2⟩ := h.w.ent t ht
    rw [e] at q1
    omega
theorem ok_pin {s : Fl} (h : s.Ok) {t : Tp} (ht : t.Ok) (p : Pn) (st : Nat) : (s.pin t p st).Ok := by
  unfold pin
  by_cases hs : fsM st = true
  · rw [if_pos hs]
    cases hg : s.get t with
    | some r => exact h
    | none =>
      have hgn := (get_none h ht).1 hg
      cases hw : s.w.a.which with
      | none => exact h
      | some i =>
        obtain ⟨hf1, hf2⟩ := fresh_i h hw
        obtain ⟨o1, o2, o3, o4⟩ := h.over hs
        have hil := Ar.which_lt h.w.a hw
        have hwo := Wh.ok_arm h.w o3 0
        obtain ⟨a1, a2, a3⟩ := h.arm hs
        rw [hw] at a3
        have hix : ix s.l i = none := ix_none.2 hf1
        have hpi : pf s.l i = false := by unfold pf; rw [hix]; rfl
        obtain ⟨r, hr⟩ : ∃ r : Fr, r = ⟨t, p, st, s.dueN st, i, s.w.a.serial + 1⟩ := ⟨_, rfl⟩
        have hri : r.i = i := by rw [hr]
        have hrt : r.t = t := by rw [hr]
        have hfn : hf (s.l ++ [r]) i = t.h := by
          unfold hf
          rw [ix_app _ _ _ (by rw [hri]; exact hix), if_pos hri.symm]
          show r.t.h = t.h
          rw [hrt]
        have hfo : ∀ x, pf s.l x = true → hf (s.l ++ [r]) x = hf s.l x := fun x hx => by
          unfold hf
          rw [ix_app _ _ _ (by rw [hri]; exact hix), if_neg (fun e => by rw [e, hri, hpi] at hx; cases hx)]
        have hk := h.g.re hfo
        have hc := h.c
        obtain ⟨p1, p2⟩ := hk.put (x := i) (by omega) (by rw [hfn]; exact Tp.h_lt t) hpi
        rw [hfn] at p1 p2
        dsimp only
        by_cases hp : s.g.ptE t.h = 0
        · rw [if_pos hp, ← hr]
          rw [hp] at p2
          have hpp : pf (s.l ++ [r]) = updB (pf s.l) i true := funext fun x => by
            unfold pf updB
            rw [ix_app _ _ _ (by rw [hri]; exact hix), hri]
            split
            · rfl
            · rfl
          refine ⟨hwo, ?_, ?_, fun q hq => ?_, ?_, ?_, fun q hq => ?_, fun q hq => ?_, h.o, ?_⟩
          · show ((s.w.arm (s.dueN st) 0).a.has.length) ≤ 256
            rw [a3]
            show (s.w.a.has.set _ _).length ≤ 256
            rw [List.length_set]
            exact hc
          · show Gr.Kg (hf (s.l ++ [r])) _ (pf (s.l ++ [r]))
            rw [hpp]
            exact p2
          · rcases List.mem_append.1 hq with e | e
            · exact h.t q e
            · rw [List.mem_singleton.1 e, hrt]
              exact ht
          · show ((s.l ++ [r]).map Fr.t).Nodup
            rw [List.map_append, List.nodup_append]
            refine ⟨h.nt, by simp, fun a ha b hb e => ?_⟩
            obtain ⟨q, hq, rfl⟩ := List.mem_map.1 ha
            have hb := List.mem_singleton.1 hb
            exact hgn q hq (by rw [e, hb, hrt])
          · show ((s.l ++ [r]).map Fr.i).Nodup
            rw [List.map_append, List.nodup_append]
            refine ⟨h.ni, by simp, fun a ha b hb e => ?_⟩
            obtain ⟨q, hq, rfl⟩ := List.mem_map.1 ha
            have hb := List.mem_singleton.1 hb
            exact hf1 q hq (by rw [e, hb, hri])
          · show ∃ u, u ∈ (s.w.arm (s.dueN st) 0).l ∧ _
            rw [a3]
            rcases List.mem_append.1 hq with e | e
            · obtain ⟨u, hu, q1⟩ := h.ent q e
              exact ⟨u, List.mem_append_left _ hu, q1⟩
            · rw [List.mem_singleton.1 e, hr]
              exact ⟨_, List.mem_append_right _ (List.mem_singleton.2 rfl), rfl, rfl, rfl⟩
          · have hq : q ∈ (s.w.arm (s.dueN st) 0).l := hq
            rw [a3] at hq
            rcases List.mem_append.1 hq with e | e
            · obtain ⟨u, hu, q1⟩ := h.all q e
              exact ⟨u, List.mem_append_left _ hu, q1⟩
            · rw [List.mem_singleton.1 e]
              exact ⟨r, List.mem_append_right _ (List.mem_singleton.2 rfl), hri⟩
          · show (s.w.arm (s.dueN st) 0).now ≤ _
            rw [a3]
            exact h.now
        · rw [if_neg hp]
          rw [show decide (s.g.ptE t.h = 0) = false from decide_eq_false hp, Gr.updB_same hpi] at p2
          have hl1 : (s.w.arm (s.dueN st) 0).a.live (i : Int) (s.w.a.serial + 1) = true := by
            rw [a3]
            exact Ar.live_new h.w.a hw
          have hcl : ∀ u, u ∈ ((s.w.arm (s.dueN st) 0).cancel (i : Int) (s.w.a.serial + 1)).l ↔ u ∈ s.w.l := fun u => by
            unfold Wh.cancel
            rw [if_pos hl1]
            show u ∈ Wh.drop (s.w.arm (s.dueN st) 0).l _ _ ↔ _
            rw [Wh.mem_drop, a3]
            show (u ∈ s.w.l ++ [_] ∧ _) ↔ _
            rw [List.mem_append]
            constructor
            · rintro ⟨e | e, q⟩
              · exact e
              · rw [List.mem_singleton.1 e] at q
                rw [Tm.is_iff.2 ⟨rfl, rfl⟩] at q
                cases q
            · intro e
              refine ⟨.inl e, ?_⟩
              cases q : u.is_ (i : Int) (s.w.a.serial + 1) with
              | false => rfl
              | true =>
                have := (Tm.is_iff.1 q).1
                exact absurd (by omega) (hf2 u e)
          have hcn : ((s.w.arm (s.dueN st) 0).cancel (i : Int) (s.w.a.serial + 1)).now = s.w.now ∧ ((s.w.arm (s.dueN st) 0).cancel (i : Int) (s.w.a.serial + 1)).a.has.length = s.w.a.has.length := by
            unfold Wh.cancel
            rw [if_pos hl1, a3]
            refine ⟨rfl, ?_⟩
            show ((s.w.a.has.set _ _).set _ _).length = _
            rw [List.length_set, List.length_set]
          refine ⟨Wh.ok_cancel hwo _ _, by rw [hcn.2]; exact hc, ?_, h.t, h.nt, h.ni, fun q hq => ?_, fun q hq => h.all q ((hcl q).1 hq), h.o, by rw [hcn.1]; exact h.now⟩
          · exact p2.re fun x hx => (hfo x hx).symm
          · obtain ⟨u, hu, q1⟩ := h.ent q hq
            exact ⟨u, (hcl u).2 hu, q1⟩
  · rw [if_neg hs]
    exact h
theorem again_eq {s : Fl} (h : s.Ok) {r : Fr} (hr : r ∈ s.l) {st : Nat} (hs : fsM st = true) : ∃ u, u ∈ s.w.l ∧ u.i = r.i ∧ u.k = r.k ∧ s.w.again (r.i : Int) r.k (s.dueN st) = ⟨s.w.a, Wh.drop s.w.l (r.i : Int) r.k ++ [⟨r.i, r.k, s.dueN st, u.what⟩], s.w.now, s.w.tn + 1⟩ ∧ s.w.againE (r.i : Int) r.k (s.dueN st) = 0 := by
  obtain ⟨o1, o2, o3, o4⟩ := h.over hs
  obtain ⟨l1, _⟩ := h.live hr
  obtain ⟨u, hu, e1, e2, e3⟩ := Wh.live_ent h.w l1
  have e1 : u.i = r.i := by omega
  refine ⟨u, hu, e1, e2, ?_, ?_⟩
  · unfold Wh.again
    rw [e3]
    dsimp only
    rw [if_neg (by rw [o1]; decide), o2, e1, e2]
  · unfold Wh.againE
    rw [if_pos l1, if_neg (by rw [o1]; decide)]
theorem drop_mem {s : Fl} (h : s.Ok) {r : Fr} (hr : r ∈ s.l) (u : Tm) : u ∈ Wh.drop s.w.l (r.i : Int) r.k ↔ u ∈ s.w.l ∧ u.i ≠ r.i := by
  obtain ⟨t, ht, h1, h2, h3⟩ := h.ent r hr
  rw [Wh.mem_drop]
  refine ⟨fun ⟨q1, q2⟩ => ⟨q1, fun e => ?_⟩, fun ⟨q1, q2⟩ => ⟨q1, ?_⟩⟩
  · obtain rfl := Wh.one_of h.w.nd ht q1 (h1.trans e.symm)
    rw [Tm.is_iff.2 ⟨by omega, h2⟩] at q2
    cases q2
  · cases q : u.is_ (r.i : Int) r.k with
    | false => rfl
    | true => exact absurd (by have := (Tm.is_iff.1 q).1; omega) q2
theorem ok_tou {s : Fl} (h : s.Ok) {t : Tp} (ht : t.Ok) (st : Nat) : (s.tou t st).Ok := by
  unfold tou
  by_cases hs : fsM st = true
  · rw [if_pos hs]
    cases hg : s.get t with
    | none => exact h
    | some r =>
      obtain ⟨hr, hrt⟩ := get_some h ht hg
      obtain ⟨u, hu, u1, u2, e1, e2⟩ := again_eq h hr hs
      obtain ⟨o1, o2, o3, o4⟩ := h.over hs
      have hwo := Wh.ok_again h.w (r.i : Int) r.k o3
      dsimp only
      refine ⟨hwo, by rw [e1]; exact h.c, ?_, fun q hq => ?_, by rw [upd_t]; exact h.nt, by rw [upd_i]; exact h.ni, fun q hq => ?_, fun q hq => ?_, h.o, by rw [e1]; exact h.now⟩
      · show Gr.Kg (hf (upd s.l r.i st (s.dueN st))) _ (pf (upd s.l r.i st (s.dueN st)))
        rw [pf_map (upd_i ..)]
        refine h.g.re fun x hx => ?_
        obtain ⟨q, hq, rfl⟩ := pf_iff.1 hx
        rw [hf_mem h.ni hq]
        have h1 : (if q.i == r.i then (⟨q.t, q.p, st, s.dueN st, q.i, q.k⟩ : Fr) else q) ∈ upd s.l r.i st (s.dueN st) := mem_upd.2 ⟨q, hq, rfl⟩
        have h2 := hf_mem (by rw [upd_i]; exact h.ni) h1
        rw [upd_f.1, upd_f.2.1] at h2
        exact h2
      · obtain ⟨x, hx, rfl⟩ := mem_upd.1 hq
        rw [upd_f.2.1]
        exact h.t x hx
      · obtain ⟨x, hx, rfl⟩ := mem_upd.1 hq
        show ∃ u, u ∈ (s.w.again (r.i : Int) r.k (s.dueN st)).l ∧ _
        rw [e1]
        by_cases q : x.i = r.i
        · obtain rfl := one_i h.ni hx hr q
          rw [if_pos (beq_self_eq_true _)]
          exact ⟨_, List.mem_append_right _ (List.mem_singleton.2 rfl), rfl, rfl, rfl⟩
        · rw [if_neg (by rw [beq_eq_false_iff_ne.2 q]; decide)]
          obtain ⟨v, hv, q1, q2⟩ := h.ent x hx
          exact ⟨v, List.mem_append_left _ ((drop_mem h hr v).2 ⟨hv, by rw [q1]; exact q⟩), q1, q2⟩
      · have hq : q ∈ (s.w.again (r.i : Int) r.k (s.dueN st)).l := hq
        rw [e1] at hq
        rcases List.mem_append.1 hq with e | e
        · obtain ⟨x, hx, q1⟩ := h.all q ((drop_mem h hr q).1 e).1
          exact ⟨_, mem_upd.2 ⟨x, hx, rfl⟩, by rw [upd_f.1]; exact q1⟩
        · rw [List.mem_singleton.1 e]
          exact ⟨_, mem_upd.2 ⟨r, hr, rfl⟩, upd_f.1⟩
  · rw [if_neg hs]
    exact h
theorem cancel_eq {s : Fl} (h : s.Ok) {r : Fr} (hr : r ∈ s.l) : s.w.cancel (r.i : Int) r.k = ⟨s.w.a.gone r.i, Wh.drop s.w.l (r.i : Int) r.k, s.w.now, s.w.tn⟩ ∧ s.w.cancelE (r.i : Int) r.k = 0 := by
  obtain ⟨l1, _⟩ := h.live hr
  unfold Wh.cancel Wh.cancelE
  rw [if_pos l1, if_pos l1]
  exact ⟨rfl, rfl⟩
theorem kg_rem {l : List Fr} {g : Gr} (hn : (l.map Fr.i).Nodup) (h : Gr.Kg (hf l) g (pf l)) {r : Fr} (hr : r ∈ l) : g.drE r.t.h r.i = 0 ∧ Gr.Kg (hf (rem l r.i)) (g.dr r.t.h r.i) (pf (rem l r.i)) := by
  obtain ⟨d1, d2⟩ := h.drop (x := r.i) (pf_iff.2 ⟨r, hr, rfl⟩)
  rw [hf_mem hn hr] at d1 d2
  have hp : pf (rem l r.i) = updB (pf l) r.i false := funext fun x => by
    unfold pf updB
    rw [ix_rem]
    split
    · rfl
    · rfl
  rw [hp]
  refine ⟨d1, d2.re fun x hx => ?_⟩
  have hne : x ≠ r.i := fun e => by
    rw [e, updB_at] at hx
    cases hx
  unfold hf
  rw [ix_rem, if_neg hne]
theorem rem_nd {l : List Fr} {x : Nat} (hn : (l.map Fr.i).Nodup) : ((rem l x).map Fr.i).Nodup := hn.sublist (List.filter_sublist.map _)
theorem rem_ndt {l : List Fr} {x : Nat} (hn : (l.map Fr.t).Nodup) : ((rem l x).map Fr.t).Nodup := hn.sublist (List.filter_sublist.map _)
theorem ok_endd {s : Fl} (h : s.Ok) {t : Tp} (ht : t.Ok) : (s.endd t).Ok := by
  unfold endd
  cases hg : s.get t with
  | none => exact h
  | some r =>
    obtain ⟨hr, hrt⟩ := get_some h ht hg
    obtain ⟨e1, e2⟩ := cancel_eq h hr
    have hwo := Wh.ok_cancel h.w (r.i : Int) r.k
    dsimp only
    refine ⟨hwo, ?_, (kg_rem h.ni h.g hr).2, fun q hq => h.t q (mem_rem.1 hq).1, rem_ndt h.nt, rem_nd h.ni, fun q hq => ?_, fun q hq => ?_, h.o, by rw [e1]; exact h.now⟩
    · show (s.w.cancel (r.i : Int) r.k).a.has.length ≤ 256
      rw [e1]
      show (s.w.a.has.set _ _).length ≤ 256
      rw [List.length_set]
      exact h.c
    · show ∃ u, u ∈ (s.w.cancel (r.i : Int) r.k).l ∧ _
      rw [e1]
      obtain ⟨q1, q2⟩ := mem_rem.1 hq
      obtain ⟨u, hu, q3, q4⟩ := h.ent q q1
      exact ⟨u, (drop_mem h hr u).2 ⟨hu, by rw [q3]; exact q2⟩, q3, q4⟩
    · have hq : q ∈ (s.w.cancel (r.i : Int) r.k).l := hq
      rw [e1] at hq
      obtain ⟨q1, q2⟩ := (drop_mem h hr q).1 hq
      obtain ⟨x, hx, q3⟩ := h.all q q1
      exact ⟨x, mem_rem.2 ⟨hx, by rw [q3]; exact q2⟩, q3⟩
theorem gones_mem : ∀ (ts : List Tm) (l : List Fr) (r : Fr), r ∈ gones l ts ↔ r ∈ l ∧ ∀ t, t ∈ ts → t.i ≠ r.i
  | [], l, r => ⟨fun h => ⟨h, fun _ h => (by cases h)⟩, fun h => h.1⟩
  | t :: ts, l, r => by
    show r ∈ gones (rem l t.i) ts ↔ _
    rw [gones_mem ts, mem_rem]
    refine ⟨fun ⟨⟨h1, h2⟩, h3⟩ => ⟨h1, fun u hu => ?_⟩, fun ⟨h1, h2⟩ => ⟨⟨h1, fun e => h2 t (List.mem_cons_self ..) e.symm⟩, fun u hu => h2 u (List.mem_cons_of_mem _ hu)⟩⟩
    rcases List.mem_cons.1 hu with e | e
    · rw [e]
      exact fun e => h2 e.symm
    · exact h3 u e
theorem gones_snoc (l : List Fr) (ts : List Tm) (t : Tm) : gones l (ts ++ [t]) = rem (gones l ts) t.i := by
  unfold gones
  rw [List.foldl_append]
  rfl
theorem gones_nd : ∀ (ts : List Tm) {l : List Fr}, (l.map Fr.i).Nodup → ((gones l ts).map Fr.i).Nodup
  | [], l, h => h
  | t :: ts, l, h => gones_nd ts (rem_nd h)
theorem gones_ndt : ∀ (ts : List Tm) {l : List Fr}, (l.map Fr.t).Nodup → ((gones l ts).map Fr.t).Nodup
  | [], l, h => h
  | t :: ts, l, h => gones_ndt ts (rem_ndt h)
theorem rows_snoc (l : List Fr) (ts : List Tm) {t : Tm} {r : Fr} (h : ix l t.i = some r) : rows l (ts ++ [t]) = rows l ts ++ [r] := by
  unfold rows
  rw [List.filterMap_append, List.filterMap_cons, h]
  rfl
theorem dropG_snoc (g : Gr) (rs : List Fr) (r : Fr) : dropG g (rs ++ [r]) = (dropG g rs).dr r.t.h r.i := by
  unfold dropG
  rw [List.foldl_append]
  rfl
/-- Of timers that are flows' own: flows that go one by one. -/
theorem gones_kg {l : List Fr} {g : Gr} (hn : (l.map Fr.i).Nodup) (hg : Gr.Kg (hf l) g (pf l)) : ∀ n (ts : List Tm), ts.length = n → (ts.map Tm.i).Nodup → (∀ t, t ∈ ts → ∃ r, r ∈ l ∧ r.i = t.i) → Gr.Kg (hf (gones l ts)) (dropG g (rows l ts)) (pf (gones l ts)) ∧ (rows l ts).length = ts.length
  | 0, ts, hl, _, _ => by
    obtain rfl := List.length_eq_zero_iff.1 hl
    exact ⟨hg, rfl⟩
  | n + 1, ts, hl, hd, hr => by
    obtain ⟨us, t, rfl⟩ : ∃ us t, ts = us ++ [t] := ⟨ts.dropLast, ts.getLast (by intro e; rw [e] at hl; cases hl), (List.dropLast_concat_getLast _).symm⟩
    rw [List.map_append, List.nodup_append] at hd
    rw [List.length_append] at hl
    have hl : us.length = n := by
      have : us.length + 1 = n + 1 := hl
      omega
    obtain ⟨k1, k2⟩ := gones_kg hn hg n us hl hd.1 fun u hu => hr u (List.mem_append_left _ hu)
    obtain ⟨r, r1, r2⟩ := hr t (List.mem_append_right _ (List.mem_singleton.2 rfl))
    have hix := ix_mem hn r1
    rw [r2] at hix
    have hm : r ∈ gones l us := (gones_mem us l r).2 ⟨r1, fun u hu e => hd.2.2 u.i (List.mem_map_of_mem hu) t.i (by simp) (e.trans r2)⟩
    rw [gones_snoc, rows_snoc l us hix, dropG_snoc, ← r2, List.length_append, List.length_append, k2]
    exact ⟨(kg_rem (gones_nd us hn) k1 hm).2, rfl⟩
theorem told_facts {s : Fl} (h : s.Ok) : (s.w.told.map Tm.i).Nodup ∧ (∀ t, t ∈ s.w.told ↔ t ∈ s.w.l ∧ t.at_ = s.w.now + 1) ∧ s.w.tick = s.w.ticked ∧ s.w.told = s.w.fires ∧ s.w.tickE = 0 := by
  have hn := h.now
  have hl : ¬ s.w.now = Wh.lastT := by unfold Wh.lastT; omega
  unfold Wh.told Wh.tick Wh.tickE
  rw [if_neg hl, if_neg hl, if_neg hl]
  exact ⟨(Wh.fires_facts h.w).1, fun t => Wh.mem_fires, rfl, rfl, rfl⟩
theorem ok_tick {s : Fl} (h : s.Ok) (hn : s.w.now < 4611686018427387904) : s.tick.Ok := by
  obtain ⟨h1, h2, h3, h4, h5⟩ := told_facts h
  have hwo := Wh.ok_tick h.w
  have hr : ∀ t, t ∈ s.w.told → ∃ r, r ∈ s.l ∧ r.i = t.i := fun t ht => h.all t ((h2 t).1 ht).1
  refine ⟨hwo, ?_, (gones_kg h.ni h.g _ _ rfl h1 hr).1, fun q hq => h.t q ((gones_mem _ _ _).1 hq).1, gones_ndt _ h.nt, gones_nd _ h.ni, fun q hq => ?_, fun q hq => ?_, h.o, ?_⟩
  · show s.w.tick.a.has.length ≤ 256
    obtain ⟨f1, f2, _⟩ := Wh.fires_facts h.w
    rw [h3]
    show (goneL s.w.a (s.w.fires.map Tm.i)).has.length ≤ 256
    rw [(goneL_facts _ _ h.w.a f1 f2).2.2.2.2]
    exact h.c
  · obtain ⟨q1, q2⟩ := (gones_mem _ _ _).1 hq
    obtain ⟨u, hu, q3, q4, q5⟩ := h.ent q q1
    show ∃ u, u ∈ s.w.tick.l ∧ _
    rw [h3]
    refine ⟨u, Wh.mem_stay.2 ⟨hu, fun e => q2 u ((h2 u).2 ⟨hu, e⟩) q3⟩, q3, q4, q5⟩
  · have hq : q ∈ s.w.tick.l := hq
    rw [h3] at hq
    obtain ⟨q1, q2⟩ := Wh.mem_stay.1 hq
    obtain ⟨x, hx, e⟩ := h.all q q1
    refine ⟨x, (gones_mem _ _ _).2 ⟨hx, fun t ht e2 => ?_⟩, e⟩
    obtain ⟨t1, t2⟩ := (h2 t).1 ht
    obtain rfl := Wh.one_of h.w.nd t1 q1 (e2.trans e)
    exact q2 t2
  · show s.w.tick.now ≤ _
    rw [h3]
    show s.w.now + 1 ≤ _
    omega
theorem hf_lt (l : List Fr) (x : Nat) : hf l x < 18446744073709551616 := by
  unfold hf
  cases ix l x with
  | none => decide
  | some r => exact Tp.h_lt r.t
theorem mv_kg {f : Nat → Nat} {P : Nat → Bool} (hfx : ∀ x, x < 256 → f x < 18446744073709551616) : ∀ n {g : Gr}, Gr.Kg f g P → Gr.Kg f (mvG n g) P
  | 0, _, h => h
  | n + 1, g, h => by
    unfold mvG
    split
    · exact mv_kg hfx n (h.step hfx)
    · exact h
theorem ok_mov {s : Fl} (h : s.Ok) (n : Nat) : (s.mov n).Ok := ⟨h.w, h.c, mv_kg (fun x _ => hf_lt s.l x) n h.g, h.t, h.nt, h.ni, h.ent, h.all, h.o, h.now⟩
theorem ok_new {c m a b x d : Nat} (hc : c ≤ 256) (h : 16 ≤ m) (h' : m ≤ 262144) (ho : fsT a b x d = true) : (new c m a b x d).Ok := by
  refine ⟨Wh.ok_new c, ?_, Gr.kg_new _ h h', fun _ h => (by cases h), List.Pairwise.nil, List.Pairwise.nil, fun _ h => (by cases h), fun _ h => (by cases h), ho, Nat.zero_le _⟩
  show (List.replicate c 0).length ≤ 256
  rw [List.length_replicate]
  exact hc
end Fl
end Go.Proofs.YtimcdnbfdkpffaaGreat
/- Stage 10's pure words: slots as the document defines them (of each list its cells), what push, pop and remove do to them, and what always holds; rings of links. -/
namespace Go.Proofs.YtimcdnbfdkpffaaGreat
structure Sl where
  ls : List (List Nat)
  cells : Nat
namespace Sl
def new (n c : Nat) : Sl := ⟨List.replicate n [], c⟩
def at_ (s : Sl) (i : Nat) : List Nat := (s.ls[i]?).getD []
/-- The cells of a list that may be none. -/
def of_ (s : Sl) (i : Int) : List Nat := if 0 ≤ i then s.at_ i.toNat else []
def whr (s : Sl) (c : Nat) : Option Nat := s.ls.findIdx? (fun l => l.contains c)
def put (s : Sl) (i : Nat) (l : List Nat) : Sl := ⟨s.ls.set i l, s.cells⟩
def hasL (s : Sl) (i : Int) : Bool := decide (0 ≤ i) && decide (i < (s.ls.length : Int))
def hasC (s : Sl) (c : Int) : Bool := decide (0 ≤ c) && decide (c < (s.cells : Int))
/-- The list of a cell that may be none, if there is one. -/
def whi (s : Sl) (c : Int) : Option Nat := if 0 ≤ c then s.whr c.toNat else none
def pushE (s : Sl) (l c : Int) : Int := if s.hasL l && s.hasC c then (if (s.whr c.toNat).isSome then 8 else 0) else 2
def push (s : Sl) (l c : Int) : Sl := if s.pushE l c = 0 then s.put l.toNat (s.at_ l.toNat ++ [c.toNat]) else s
def remE (s : Sl) (c : Int) : Int := if s.hasC c then (if (s.whr c.toNat).isSome then 0 else 7) else 2
def rem (s : Sl) (c : Int) : Sl := match s.whi c with
  | some i => s.put i ((s.at_ i).filter (· != c.toNat))
  | none => s
def pop (s : Sl) (l : Int) : Sl := match s.of_ l with
  | [] => s
  | _ :: t => s.put l.toNat t
structure Ok (s : Sl) : Prop where
  low : ∀ i c, c ∈ s.at_ i → c < s.cells
  nodup : ∀ i, (s.at_ i).Nodup
  one : ∀ i j c, c ∈ s.at_ i → c ∈ s.at_ j → i = j
theorem at_out {s : Sl} {i : Nat} (h : s.ls.length ≤ i) : s.at_ i = [] := by
  unfold at_
  rw [List.getElem?_eq_none h]; rfl
theorem at_lt {s : Sl} {i c : Nat} (h : c ∈ s.at_ i) : i < s.ls.length := by
  rcases Nat.lt_or_ge i s.ls.length with q | q
  · exact q
  · rw [at_out q] at h
    cases h
theorem at_put {s : Sl} {i : Nat} (hi : i < s.ls.length) (l : List Nat) (j : Nat) : (s.put i l).at_ j = if j = i then l else s.at_ j := by
  unfold at_ put
  simp only
  rw [List.getElem?_set]
  by_cases h : i = j
  · subst h; simp [hi]
  · have h' : ¬ j = i := fun e => h e.symm
    simp [h, h']
theorem put_len (s : Sl) (i : Nat) (l : List Nat) : (s.put i l).ls.length = s.ls.length := List.length_set
theorem at_new (n c i : Nat) : (new n c).at_ i = [] := by
  unfold at_ new
  simp only
  rw [List.getElem?_replicate]
  split <;> rfl
theorem ok_new (n c : Nat) : (new n c).Ok :=
  ⟨fun i x h => (by rw [at_new] at h; cases h), fun i => (by rw [at_new]; exact List.nodup_nil), fun i j x h => (by rw [at_new] at h; cases h)⟩
theorem whr_some {s : Sl} (hs : s.Ok) {c i : Nat} : s.whr c = some i ↔ c ∈ s.at_ i := by
  unfold whr
  rw [List.findIdx?_eq_some_iff_getElem]
  constructor
  · rintro ⟨h, h1, _⟩
    unfold at_
    rw [List.getElem?_eq_getElem h]
    simpa using h1
  · intro h
    have hi := at_lt h
    have h0 := h
    unfold at_ at h
    rw [List.getElem?_eq_getElem hi] at h
    refine ⟨hi, by simpa using h, fun j hj => ?_⟩
    have hjl : j < s.ls.length := by omega
    intro hc
    have : c ∈ s.at_ j := by
      unfold at_
      rw [List.getElem?_eq_getElem hjl]
      simpa using hc
    have := hs.one _ _ _ this h0
    omega
theorem whr_none {s : Sl} {c : Nat} : s.whr c = none ↔ ∀ i, ¬ c ∈ s.at_ i := by
  unfold whr
  rw [List.findIdx?_eq_none_iff]
  constructor
  · intro h i hi
    have hl := at_lt hi
    unfold at_ at hi
    rw [List.getElem?_eq_getElem hl] at hi
    have := h _ (List.getElem_mem hl)
    simp at this
    exact this hi
  · intro h x hx
    obtain ⟨i, hi, rfl⟩ := List.getElem_of_mem hx
    have := h i
    unfold at_ at this
    rw [List.getElem?_eq_getElem hi] at this
    simpa using this
theorem ok_put {s : Sl} (hs : s.Ok) {i : Nat} (hi : i < s.ls.length) {l : List Nat} (hn : l.Nodup) (hl : ∀ c, c ∈ l → c < s.cells) (ho : ∀ c j, c ∈ l → c ∈ s.at_ j → j = i) : (s.put i l).Ok := by
  have ha := at_put hi l
  refine ⟨fun j c h => ?_, fun j => ?_, fun j k c h1 h2 => ?_⟩
  · rw [ha] at h
    split at h
    · exact hl c h
    · exact hs.low j c h
  · rw [ha]
    split
    · exact hn
    · exact hs.nodup j
  · rw [ha] at h1 h2
    split at h1 <;> split at h2
    · omega
    · rename_i e _
      rw [ho c k h1 h2, e]
    · rename_i e
      rw [ho c j h2 h1, e]
    · exact hs.one j k c h1 h2
theorem ok_push {s : Sl} (hs : s.Ok) (l c : Int) : (s.push l c).Ok := by
  unfold push
  split
  · rename_i h
    unfold pushE at h
    split at h
    · rename_i hh
      split at h
      · cases h
      · rename_i hw
        simp [hasL, hasC] at hh
        have hw' : s.whr c.toNat = none := by simpa using hw
        rw [whr_none] at hw'
        refine ok_put hs (by omega) ?_ ?_ ?_
        · rw [List.nodup_append]
          refine ⟨hs.nodup _, by simp, fun a ha b hb e => ?_⟩
          simp at hb
          subst hb; subst e
          exact hw' _ ha
        · intro d hd
          rcases List.mem_append.1 hd with hd | hd
          · exact hs.low _ _ hd
          · simp at hd
            omega
        · intro d j hd hj
          rcases List.mem_append.1 hd with hd | hd
          · exact hs.one _ _ _ hj hd
          · simp at hd
            subst hd
            exact absurd hj (hw' j)
    · cases h
  · exact hs
theorem ok_rem {s : Sl} (hs : s.Ok) (c : Int) : (s.rem c).Ok := by
  unfold rem
  split
  · rename_i i h
    unfold whi at h
    split at h
    · rw [whr_some hs] at h
      refine ok_put hs (at_lt h) ((hs.nodup i).filter _) ?_ ?_
      · intro d hd
        exact hs.low i d (List.mem_filter.1 hd).1
      · intro d j hd hj
        exact hs.one _ _ _ hj (List.mem_filter.1 hd).1
    · cases h
  · exact hs
theorem of_some {s : Sl} {l : Int} {x : Nat} {t : List Nat} (h : s.of_ l = x :: t) : 0 ≤ l ∧ l.toNat < s.ls.length ∧ s.at_ l.toNat = x :: t := by
  unfold of_ at h
  split at h
  · rename_i h0
    exact ⟨h0, at_lt (c := x) (by rw [h]; simp), h⟩
  · cases h
theorem rem_len (s : Sl) (c : Int) : (s.rem c).ls.length = s.ls.length := by
  unfold rem; split
  · exact put_len ..
  · rfl
theorem rem_cells (s : Sl) (c : Int) : (s.rem c).cells = s.cells := by unfold rem; split <;> rfl
theorem nodup_bound : ∀ (n : Nat) (l : List Nat), l.Nodup → (∀ c, c ∈ l → c < n) → l.length ≤ n
  | 0, [], _, _ => Nat.le_refl _
  | 0, c :: _, _, h => absurd (h c (List.mem_cons_self ..)) (Nat.not_lt_zero _)
  | n + 1, l, hn, h => by
    have h2 := nodup_bound n (l.erase n) (hn.erase n) (fun c hc => by
      have h3 := (hn.mem_erase_iff).1 hc
      have := h c h3.2
      have := h3.1
      omega)
    have h3 := List.length_erase (a := n) (l := l)
    split at h3 <;> omega
/-- A list has at most as many as there are cells. -/
theorem at_length {s : Sl} (hs : s.Ok) (i : Nat) : (s.at_ i).length ≤ s.cells := nodup_bound _ _ (hs.nodup i) (hs.low i)
end Sl
/-! Rings. -/
/-- From a on, linked both ways, cells of a list, to b. -/
def Ch (nx pv : Nat → Nat) : Nat → List Nat → Nat → Prop
  | a, [], b => nx a = b ∧ pv b = a
  | a, x :: t, b => nx a = x ∧ pv x = a ∧ Ch nx pv x t b
/-- The last one, or a. -/
def lastOr : Nat → List Nat → Nat
  | a, [] => a
  | _, x :: t => lastOr x t
theorem lastOr_mem : ∀ (a : Nat) (l : List Nat), lastOr a l = a ∨ lastOr a l ∈ l
  | a, [] => .inl rfl
  | a, x :: t => by
    rcases lastOr_mem x t with h | h
    · right
      show lastOr x t ∈ x :: t
      rw [h]
      exact List.mem_cons_self ..
    · right
      exact List.mem_cons_of_mem _ h
theorem Ch.app {nx pv : Nat → Nat} {x : Nat} {t : List Nat} {b : Nat} : ∀ {a : Nat} {l : List Nat}, Ch nx pv a (l ++ x :: t) b ↔ Ch nx pv a l x ∧ Ch nx pv x t b
  | _, [] => ⟨fun h => ⟨⟨h.1, h.2.1⟩, h.2.2⟩, fun h => ⟨h.1.1, h.1.2, h.2⟩⟩
  | a, y :: l => by
    show (nx a = y ∧ pv y = a ∧ Ch nx pv y (l ++ x :: t) b) ↔ (nx a = y ∧ pv y = a ∧ Ch nx pv y l x) ∧ _
    rw [Ch.app (a := y) (l := l)]
    exact ⟨fun h => ⟨⟨h.1, h.2.1, h.2.2.1⟩, h.2.2.2⟩, fun h => ⟨h.1.1, h.1.2.1, h.1.2.2, h.2⟩⟩
theorem Ch.ends {nx pv : Nat → Nat} {b : Nat} : ∀ {a : Nat} {l : List Nat}, Ch nx pv a l b → nx (lastOr a l) = b ∧ pv b = lastOr a l
  | _, [], h => h
  | _, x :: t, h => Ch.ends (a := x) (l := t) h.2.2
theorem Ch.same {nx pv nx' pv' : Nat → Nat} {b : Nat} : ∀ {a : Nat} {l : List Nat}, Ch nx pv a l b → (∀ k, k = a ∨ k ∈ l → nx' k = nx k) → (∀ k, k ∈ l ∨ k = b → pv' k = pv k) → Ch nx' pv' a l b
  | a, [], h, h1, h2 => ⟨(h1 a (.inl rfl)).trans h.1, (h2 b (.inr rfl)).trans h.2⟩
  | a, x :: t, h, h1, h2 => ⟨(h1 a (.inl rfl)).trans h.1, (h2 x (.inl (List.mem_cons_self ..))).trans h.2.1, Ch.same (a := x) (l := t) h.2.2
      (fun k hk => h1 k (.inr (by rcases hk with rfl | hk; exact List.mem_cons_self ..; exact List.mem_cons_of_mem _ hk)))
      (fun k hk => h2 k (hk.imp (List.mem_cons_of_mem _) id))⟩
/-- The end is another one. -/
theorem Ch.relink {nx pv nx' pv' : Nat → Nat} {b b' : Nat} : ∀ {a : Nat} {l : List Nat}, Ch nx pv a l b → (a :: l).Nodup → (∀ k, k = a ∨ k ∈ l → k ≠ lastOr a l → nx' k = nx k) → (∀ k, k ∈ l → pv' k = pv k) →
    nx' (lastOr a l) = b' → pv' b' = lastOr a l → Ch nx' pv' a l b'
  | a, [], h, _, h1, h2, h3, h4 => ⟨h3, h4⟩
  | a, x :: t, h, hn, h1, h2, h3, h4 => by
    have hne : a ≠ lastOr x t := fun e => by
      rcases lastOr_mem x t with q | q
      · rw [q] at e
        subst e
        exact (List.nodup_cons.1 hn).1 (List.mem_cons_self ..)
      · rw [← e] at q
        exact (List.nodup_cons.1 hn).1 (List.mem_cons_of_mem _ q)
    refine ⟨(h1 a (.inl rfl) hne).trans h.1, (h2 x (List.mem_cons_self ..)).trans h.2.1, Ch.relink (a := x) (l := t) h.2.2 (List.nodup_cons.1 hn).2 (fun k hk => h1 k (.inr (by rcases hk with rfl | hk; exact List.mem_cons_self ..; exact List.mem_cons_of_mem _ hk))) (fun k hk => h2 k (List.mem_cons_of_mem _ hk)) h3 h4⟩
/-- The one behind the ones of l. -/
def hdOr : List Nat → Nat → Nat
  | [], b => b
  | x :: _, _ => x
theorem Ch.first {nx pv : Nat → Nat} {a b : Nat} {l : List Nat} (h : Ch nx pv a l b) : nx a = hdOr l b := by
  cases l with
  | nil => exact h.1
  | cons x t => exact h.1
/-- x is taken out. -/
theorem Ch.cut {nx pv nx' pv' : Nat → Nat} {o x : Nat} {ys zs : List Nat} (h : Ch nx pv o (ys ++ x :: zs) o) (hn : (o :: (ys ++ x :: zs)).Nodup)
    (h1 : ∀ k, k ≠ lastOr o ys → k ≠ x → nx' k = nx k) (h2 : ∀ k, k ≠ hdOr zs o → k ≠ x → pv' k = pv k) (h3 : nx' (lastOr o ys) = hdOr zs o) (h4 : pv' (hdOr zs o) = lastOr o ys) : Ch nx' pv' o (ys ++ zs) o := by
  obtain ⟨ha, hb⟩ := Ch.app.1 h
  have hn1 : (o :: ys).Nodup := by
    have := hn
    rw [← List.cons_append, List.nodup_append] at this
    exact this.1
  rw [← List.cons_append, List.nodup_append] at hn
  obtain ⟨_, hn2, hd⟩ := hn
  have hxy : ∀ k, k ∈ o :: ys → k ≠ x := fun k hk e => hd k hk x (List.mem_cons_self ..) e
  cases zs with
  | nil =>
    rw [List.append_nil]
    refine ha.relink hn1 (fun k hk hl => h1 k hl (hxy k ?_)) (fun k hk => h2 k ?_ (hxy k (List.mem_cons_of_mem _ hk))) h3 h4
    · rcases hk with rfl | hk
      · exact List.mem_cons_self ..
      · exact List.mem_cons_of_mem _ hk
    · show k ≠ o
      intro e
      subst e
      exact (List.nodup_cons.1 hn1).1 hk
  | cons z t =>
    have hz : ∀ k, k ∈ z :: t → ¬ k ∈ o :: ys := fun k hk hy => hd k hy k (List.mem_cons_of_mem _ hk) rfl
    have hl : lastOr o ys ∈ o :: ys := by
      rcases lastOr_mem o ys with q | q
      · rw [q]
        exact List.mem_cons_self ..
      · exact List.mem_cons_of_mem _ q
    have hxn := (List.nodup_cons.1 hn2).1
    have hzt := (List.nodup_cons.1 hn2).2
    refine Ch.app.2 ⟨?_, ?_⟩
    · refine ha.relink hn1 (fun k hk hl => h1 k hl (hxy k ?_)) (fun k hk => h2 k ?_ (hxy k (List.mem_cons_of_mem _ hk))) h3 h4
      · rcases hk with rfl | hk
        · exact List.mem_cons_self ..
        · exact List.mem_cons_of_mem _ hk
      · show k ≠ z
        intro e
        subst e
        exact hz k (List.mem_cons_self ..) (List.mem_cons_of_mem _ hk)
    · refine hb.2.2.same (fun k hk => h1 k ?_ ?_) (fun k hk => h2 k ?_ ?_)
      · intro e
        have hk' : k ∈ z :: t := by
          rcases hk with rfl | hk
          · exact List.mem_cons_self ..
          · exact List.mem_cons_of_mem _ hk
        exact hz k hk' (by rw [e]; exact hl)
      · intro e
        subst e
        refine hxn ?_
        rcases hk with e | hk
        · rw [e]
          exact List.mem_cons_self ..
        · exact List.mem_cons_of_mem _ hk
      · show k ≠ z
        intro e
        subst e
        rcases hk with hk | hk
        · exact (List.nodup_cons.1 hzt).1 hk
        · exact hz k (List.mem_cons_self ..) (by rw [hk]; exact List.mem_cons_self ..)
      · intro e
        subst e
        rcases hk with hk | hk
        · exact hxn (List.mem_cons_of_mem _ hk)
        · exact hxy o (List.mem_cons_self ..) hk.symm
/-- c is put behind the last one. -/
theorem Ch.push {nx pv nx' pv' : Nat → Nat} {o c : Nat} {l : List Nat} (h : Ch nx pv o l o) (hn : (o :: l).Nodup) (hc : ¬ c ∈ o :: l)
    (h1 : ∀ k, k ≠ lastOr o l → k ≠ c → nx' k = nx k) (h2 : ∀ k, k ≠ o → k ≠ c → pv' k = pv k) (h3 : nx' (lastOr o l) = c) (h4 : pv' c = lastOr o l) (h5 : nx' c = o) (h6 : pv' o = c) : Ch nx' pv' o (l ++ [c]) o := by
  refine Ch.app.2 ⟨?_, h5, h6⟩
  refine h.relink hn (fun k hk hl => h1 k hl ?_) (fun k hk => h2 k ?_ ?_) h3 h4
  · intro e
    subst e
    refine hc ?_
    rcases hk with e | hk
    · rw [e]
      exact List.mem_cons_self ..
    · exact List.mem_cons_of_mem _ hk
  · intro e
    subst e
    exact (List.nodup_cons.1 hn).1 hk
  · intro e
    subst e
    exact hc (List.mem_cons_of_mem _ hk)
end Go.Proofs.YtimcdnbfdkpffaaGreat
/- Stage 10: the landed slots' fields stand for slots as the document has them: what a push, an unlinking do to them; pure. -/
namespace Go.Proofs.YtimcdnbfdkpffaaGreat
namespace Sl
theorem whr_put {s : Sl} (hs : s.Ok) {i : Nat} (hi : i < s.ls.length) {l : List Nat} (ho : (s.put i l).Ok) (k : Nat) : (s.put i l).whr k = if k ∈ l then some i else if s.whr k = some i then none else s.whr k := by
  have ha := at_put hi l
  by_cases h1 : k ∈ l
  · rw [if_pos h1, whr_some ho, ha, if_pos rfl]
    exact h1
  · rw [if_neg h1]
    by_cases h2 : s.whr k = some i
    · rw [if_pos h2, whr_none]
      intro j hj
      rw [ha] at hj
      split at hj
      · exact h1 hj
      · rename_i hne
        rw [whr_some hs] at h2
        exact hne (hs.one _ _ _ hj h2)
    · rw [if_neg h2]
      cases hw : s.whr k with
      | none =>
        rw [whr_none] at hw ⊢
        intro j hj
        rw [ha] at hj
        split at hj
        · exact h1 hj
        · exact hw j hj
      | some j =>
        have hne : ¬ j = i := fun e => h2 (by rw [hw, e])
        rw [whr_some ho, ha, if_neg hne]
        exact (whr_some hs).1 hw
end Sl
/-- The landed slots' fields stand for s. -/
structure SRep (s : Sl) (fl : Nat → Int) (pv nx sz : Nat → Nat) : Prop where
  lst : ∀ k, k < s.cells → fl k = match s.whr k with
    | some i => (i : Int)
    | none => -1
  ring : ∀ i, i < s.ls.length → Ch nx pv (s.cells + i) (s.at_ i) (s.cells + i)
  size : ∀ i, i < s.ls.length → sz i = (s.at_ i).length
/-- A ring's nodes are no two alike. -/
theorem ring_nodup {s : Sl} (hs : s.Ok) (i : Nat) : ((s.cells + i) :: s.at_ i).Nodup :=
  List.nodup_cons.2 ⟨fun h => by have := hs.low i _ h; omega, hs.nodup i⟩
theorem ring_other {s : Sl} (hs : s.Ok) {i j : Nat} (hij : i ≠ j) {k : Nat} (hk : k ∈ (s.cells + i) :: s.at_ i) : ¬ k ∈ (s.cells + j) :: s.at_ j := fun h => by
  rcases List.mem_cons.1 hk with rfl | hk
  · rcases List.mem_cons.1 h with e | h
    · omega
    · have := hs.low j _ h
      omega
  · rcases List.mem_cons.1 h with rfl | h
    · have := hs.low i _ hk
      omega
    · exact hij (hs.one _ _ _ hk h)
theorem SRep.same_ring {s : Sl} {fl : Nat → Int} {pv nx sz : Nat → Nat} (h : SRep s fl pv nx sz) {j : Nat} (hj : j < s.ls.length) {nx' pv' : Nat → Nat} (hn : ∀ k, k ∈ (s.cells + j) :: s.at_ j → nx' k = nx k) (hp : ∀ k, k ∈ (s.cells + j) :: s.at_ j → pv' k = pv k) :
    Ch nx' pv' (s.cells + j) (s.at_ j) (s.cells + j) := (h.ring j hj).same
  (fun k hk => hn k (by rcases hk with rfl | hk; exact List.mem_cons_self ..; exact List.mem_cons_of_mem _ hk))
  (fun k hk => hp k (by rcases hk with hk | rfl; exact List.mem_cons_of_mem _ hk; exact List.mem_cons_self ..))
theorem SRep.last {s : Sl} {fl : Nat → Int} {pv nx sz : Nat → Nat} (h : SRep s fl pv nx sz) {i : Nat} (hi : i < s.ls.length) : pv (s.cells + i) = lastOr (s.cells + i) (s.at_ i) := (h.ring i hi).ends.2
theorem last_node {o : Nat} {l : List Nat} : lastOr o l ∈ o :: l := by
  rcases lastOr_mem o l with q | q
  · rw [q]
    exact List.mem_cons_self ..
  · exact List.mem_cons_of_mem _ q
def updN (f : Nat → Nat) (k v : Nat) : Nat → Nat := fun j => if j = k then v else f j
def updI (f : Nat → Int) (k : Nat) (v : Int) : Nat → Int := fun j => if j = k then v else f j
theorem updN_same (f : Nat → Nat) (k v : Nat) : updN f k v k = v := if_pos rfl
theorem updN_ne {f : Nat → Nat} {k v j : Nat} (h : j ≠ k) : updN f k v j = f j := if_neg h
theorem ok_pushed {s : Sl} (hs : s.Ok) {i c : Nat} (hi : i < s.ls.length) (hc : c < s.cells) (hw : s.whr c = none) : (s.put i (s.at_ i ++ [c])).Ok := by
  rw [Sl.whr_none] at hw
  refine Sl.ok_put hs hi ?_ (fun d hd => ?_) fun d j hd hj => ?_
  · rw [List.nodup_append]
    refine ⟨hs.nodup _, by simp, fun a ha b hb e => ?_⟩
    simp at hb
    subst hb; subst e
    exact hw _ ha
  · rcases List.mem_append.1 hd with hd | hd
    · exact hs.low _ _ hd
    · simp at hd
      omega
  · rcases List.mem_append.1 hd with hd | hd
    · exact hs.one _ _ _ hj hd
    · simp at hd
      subst hd
      exact absurd hj (hw j)
theorem SRep.push {s : Sl} {fl : Nat → Int} {pv nx sz : Nat → Nat} (h : SRep s fl pv nx sz) (hs : s.Ok) {i c la : Nat} (hi : i < s.ls.length) (hc : c < s.cells) (hw : s.whr c = none) (hla : la = pv (s.cells + i)) :
    SRep (s.put i (s.at_ i ++ [c])) (updI fl c (i : Int)) (updN (updN pv c la) (s.cells + i) c) (updN (updN nx c (s.cells + i)) la c) (updN sz i (sz i + 1)) := by
  have hok := ok_pushed hs hi hc hw
  have hw' := Sl.whr_none.1 hw
  have hl := h.last hi
  rw [← hla] at hl
  have hcn : ∀ j, ¬ c ∈ (s.cells + j) :: s.at_ j := fun j hm => by
    rcases List.mem_cons.1 hm with e | hm
    · omega
    · exact hw' j hm
  have hlm : la ∈ (s.cells + i) :: s.at_ i := by
    rw [hl]
    exact last_node
  have hlc : la ≠ c := fun e => hcn i (e ▸ hlm)
  have hoc : s.cells + i ≠ c := by omega
  refine ⟨fun k hk => ?_, fun j hj => ?_, fun j hj => ?_⟩
  · rw [Sl.whr_put hs hi hok]
    unfold updI
    by_cases hkc : k = c
    · subst hkc
      rw [if_pos rfl, if_pos (by simp)]
    · rw [if_neg hkc, h.lst k hk]
      by_cases hm : k ∈ s.at_ i
      · rw [if_pos (List.mem_append_left _ hm), (Sl.whr_some hs).2 hm]
      · rw [if_neg (by simp [hm, hkc]), if_neg (fun e => hm ((Sl.whr_some hs).1 e))]
  · have hj' : j < s.ls.length := by rwa [Sl.put_len] at hj
    show Ch _ _ (s.cells + j) _ (s.cells + j)
    rw [Sl.at_put hi]
    by_cases e : j = i
    · subst e
      rw [if_pos rfl]
      refine (h.ring j hj').push (ring_nodup hs j) (hcn j) (fun k h1 h2 => ?_) (fun k h1 h2 => ?_) ?_ ?_ ?_ ?_
      · rw [updN_ne (by rw [hl]; exact h1), updN_ne h2]
      · rw [updN_ne h1, updN_ne h2]
      · rw [← hl, updN_same]
      · rw [updN_ne (Ne.symm hoc), updN_same, hl]
      · rw [updN_ne (Ne.symm hlc), updN_same]
      · rw [updN_same]
    · rw [if_neg e]
      refine h.same_ring hj' (fun k hk => ?_) fun k hk => ?_
      · have q1 : k ≠ la := fun q => ring_other hs (Ne.symm e) hlm (q ▸ hk)
        have q2 : k ≠ c := fun q => hcn j (q ▸ hk)
        rw [updN_ne q1, updN_ne q2]
      · have q1 : k ≠ s.cells + i := fun q => ring_other hs (Ne.symm e) (List.mem_cons_self ..) (q ▸ hk)
        have q2 : k ≠ c := fun q => hcn j (q ▸ hk)
        rw [updN_ne q1, updN_ne q2]
  · have hj' : j < s.ls.length := by rwa [Sl.put_len] at hj
    rw [Sl.at_put hi]
    unfold updN
    by_cases e : j = i
    · subst e
      rw [if_pos rfl, if_pos rfl, List.length_append, h.size j hj']
      rfl
    · rw [if_neg e, if_neg e]
      exact h.size j hj'
theorem filter_mid {ys zs : List Nat} {c : Nat} (h : (ys ++ c :: zs).Nodup) : (ys ++ c :: zs).filter (· != c) = ys ++ zs := by
  rw [List.nodup_append] at h
  obtain ⟨_, h2, h3⟩ := h
  have h4 := (List.nodup_cons.1 h2).1
  rw [List.filter_append, List.filter_cons_of_neg (by simp), List.filter_eq_self.2, List.filter_eq_self.2]
  · intro x hx
    simp only [bne_iff_ne, ne_eq]
    rintro rfl
    exact h4 hx
  · intro x hx
    simp only [bne_iff_ne, ne_eq]
    rintro rfl
    exact h3 x hx x (List.mem_cons_self ..) rfl
theorem ok_cut {s : Sl} (hs : s.Ok) {i c : Nat} (hi : i < s.ls.length) : (s.put i ((s.at_ i).filter (· != c))).Ok := by
  refine Sl.ok_put hs hi ((hs.nodup i).filter _) (fun d hd => hs.low i d (List.mem_filter.1 hd).1) fun d j hd hj => hs.one _ _ _ hj (List.mem_filter.1 hd).1
/-- The neighbours of a cell in a ring. -/
theorem SRep.mid {s : Sl} {fl : Nat → Int} {pv nx sz : Nat → Nat} (h : SRep s fl pv nx sz) {i c : Nat} (hi : i < s.ls.length) {ys zs : List Nat} (he : s.at_ i = ys ++ c :: zs) : pv c = lastOr (s.cells + i) ys ∧ nx c = hdOr zs (s.cells + i) := by
  have hr := h.ring i hi
  rw [he] at hr
  obtain ⟨ha, hb⟩ := Ch.app.1 hr
  exact ⟨ha.ends.2, hb.first⟩
theorem SRep.node {s : Sl} {fl : Nat → Int} {pv nx sz : Nat → Nat} (h : SRep s fl pv nx sz) {i c : Nat} (hi : i < s.ls.length) (hc : c ∈ s.at_ i) : pv c ∈ (s.cells + i) :: s.at_ i ∧ nx c ∈ (s.cells + i) :: s.at_ i := by
  obtain ⟨ys, zs, he⟩ := List.append_of_mem hc
  obtain ⟨h1, h2⟩ := h.mid hi he
  rw [h1, h2, he]
  constructor
  · rcases lastOr_mem (s.cells + i) ys with q | q
    · rw [q]
      exact List.mem_cons_self ..
    · exact List.mem_cons_of_mem _ (List.mem_append_left _ q)
  · cases zs with
    | nil => exact List.mem_cons_self ..
    | cons z t => exact List.mem_cons_of_mem _ (List.mem_append_right _ (List.mem_cons_of_mem _ (List.mem_cons_self ..)))
theorem SRep.cut {s : Sl} {fl : Nat → Int} {pv nx sz : Nat → Nat} (h : SRep s fl pv nx sz) (hs : s.Ok) {i c : Nat} (hi : i < s.ls.length) (hc : c ∈ s.at_ i) :
    SRep (s.put i ((s.at_ i).filter (· != c))) (updI fl c (-1)) (updN (updN pv (nx c) (pv c)) c 0) (updN (updN nx (pv c) (nx c)) c 0) (updN sz i (sz i - 1)) := by
  have hok := ok_cut (c := c) hs hi
  obtain ⟨hp, hn⟩ := h.node hi hc
  obtain ⟨ys, zs, he⟩ := List.append_of_mem hc
  obtain ⟨h1, h2⟩ := h.mid hi he
  have hnd := ring_nodup hs i
  have hfm : (s.at_ i).filter (· != c) = ys ++ zs := by
    rw [he]
    refine filter_mid ?_
    rw [← he]
    exact hs.nodup i
  have hcm : ∀ j, j ≠ i → ¬ c ∈ (s.cells + j) :: s.at_ j := fun j hj hm => ring_other hs (Ne.symm hj) (List.mem_cons_of_mem _ hc) hm
  refine ⟨fun k hk => ?_, fun j hj => ?_, fun j hj => ?_⟩
  · rw [Sl.whr_put hs hi hok]
    unfold updI
    by_cases hkc : k = c
    · subst hkc
      rw [if_pos rfl, if_neg (by simp), if_pos ((Sl.whr_some hs).2 hc)]
    · rw [if_neg hkc, h.lst k hk]
      by_cases hm : k ∈ s.at_ i
      · rw [if_pos (List.mem_filter.2 ⟨hm, by simp [hkc]⟩), (Sl.whr_some hs).2 hm]
      · rw [if_neg (fun e => hm (List.mem_filter.1 e).1), if_neg (fun e => hm ((Sl.whr_some hs).1 e))]
  · have hj' : j < s.ls.length := by rwa [Sl.put_len] at hj
    show Ch _ _ (s.cells + j) _ (s.cells + j)
    rw [Sl.at_put hi]
    by_cases e : j = i
    · subst e
      rw [if_pos rfl, hfm]
      have hr := h.ring j hj'
      rw [he] at hr hnd
      have hlc : lastOr (s.cells + j) ys ≠ c := fun q => by
        rw [← List.cons_append, List.nodup_append] at hnd
        refine hnd.2.2 _ ?_ c (List.mem_cons_self ..) q
        rcases lastOr_mem (s.cells + j) ys with q' | q'
        · rw [q']
          exact List.mem_cons_self ..
        · exact List.mem_cons_of_mem _ q'
      have hnc : hdOr zs (s.cells + j) ≠ c := fun q => by
        cases zs with
        | nil =>
          have q : s.cells + j = c := q
          have := hs.low j c (by rw [he]; simp)
          omega
        | cons z t =>
          have q : z = c := q
          subst q
          rw [← List.cons_append, List.nodup_append] at hnd
          exact (List.nodup_cons.1 hnd.2.1).1 (List.mem_cons_self ..)
      refine hr.cut hnd (fun k q1 q2 => ?_) (fun k q1 q2 => ?_) ?_ ?_
      · rw [updN_ne q2, h1, updN_ne q1]
      · rw [updN_ne q2, h2, updN_ne q1]
      · rw [updN_ne hlc, h1, updN_same, h2]
      · rw [updN_ne hnc, h2, updN_same, h1]
    · rw [if_neg e]
      refine h.same_ring hj' (fun k hk => ?_) fun k hk => ?_
      · have q1 : k ≠ c := fun q => hcm j e (q ▸ hk)
        have q2 : k ≠ pv c := fun q => ring_other hs (Ne.symm e) hp (q ▸ hk)
        rw [updN_ne q1, updN_ne q2]
      · have q1 : k ≠ c := fun q => hcm j e (q ▸ hk)
        have q2 : k ≠ nx c := fun q => ring_other hs (Ne.symm e) hn (q ▸ hk)
        rw [updN_ne q1, updN_ne q2]
  · have hj' : j < s.ls.length := by rwa [Sl.put_len] at hj
    rw [Sl.at_put hi]
    unfold updN
    by_cases e : j = i
    · subst e
      rw [if_pos rfl, if_pos rfl, hfm, h.size j hj', he]
      simp
    · rw [if_neg e, if_neg e]
      exact h.size j hj'
end Go.Proofs.YtimcdnbfdkpffaaGreat
/- Stage 11's pure words: the wheel's lists: where the cells of timers lie, but for some that are out; what taking one out, laying one, emptying a list, taking and freeing cells do to that. -/
namespace Go.Proofs.YtimcdnbfdkpffaaGreat
theorem Sl.push_eq {S : Sl} {q i : Nat} (hq : q < S.ls.length) (hi : i < S.cells) (hw : S.whr i = none) : S.push (q : Int) (i : Int) = S.put q (S.at_ q ++ [i]) := by
  have e : S.pushE (q : Int) (i : Int) = 0 := by
    unfold Sl.pushE Sl.hasL Sl.hasC
    simp [hq, hi, hw]
  unfold Sl.push
  rw [if_pos e]
  rfl
theorem Sl.rem_eq {S : Sl} (hs : S.Ok) {q i : Nat} (hi : i ∈ S.at_ q) : S.rem (i : Int) = S.put q ((S.at_ q).filter (· != i)) := by
  have e : S.whi (i : Int) = some q := by
    unfold Sl.whi
    rw [if_pos (by omega)]
    simpa using (Sl.whr_some hs).2 hi
  unfold Sl.rem
  rw [e]
  rfl
theorem Sl.put_put' (S : Sl) (i : Nat) (a b : List Nat) : (S.put i a).put i b = S.put i b := by
  unfold Sl.put
  simp
theorem Sl.put_at (S : Sl) {i : Nat} (hi : i < S.ls.length) : S.put i (S.at_ i) = S := by
  obtain ⟨ls, m⟩ := S
  have hi : i < ls.length := hi
  unfold Sl.put Sl.at_
  simp [List.getElem?_eq_getElem hi]
theorem Sl.pop_eq {S : Sl} {q x : Nat} {t : List Nat} (h : S.at_ q = x :: t) : S.pop (q : Int) = S.put q t := by
  have e : S.of_ (q : Int) = x :: t := by
    unfold Sl.of_
    rw [if_pos (by omega)]
    simpa using h
  unfold Sl.pop
  rw [e]
  rfl
/-- Each timer's cell lies in a list of which L holds, but those of X, that lie in none. -/
structure Plc (L : Nat → Nat → Prop) (S : Sl) (a : Ar) (ta : Nat → Nat) (X : Nat → Prop) : Prop where
  ok : S.Ok
  cells : S.cells = a.has.length
  len : S.ls.length = 1024
  mem : ∀ q i, i ∈ S.at_ q → a.at_ i ≠ 0 ∧ ¬ X i
  out : ∀ i, X i → a.at_ i ≠ 0
  pl : ∀ i, a.at_ i ≠ 0 → ¬ X i → ∃ q, i ∈ S.at_ q ∧ L (ta i) q
section
variable {L L' : Nat → Nat → Prop} {S : Sl} {a : Ar} {ta ta' : Nat → Nat} {X Y : Nat → Prop}
theorem Plc.imp (h : Plc L S a ta X) (hL : ∀ i q, a.at_ i ≠ 0 → ¬ X i → i ∈ S.at_ q → L (ta i) q → L' (ta' i) q) : Plc L' S a ta' X :=
  ⟨h.ok, h.cells, h.len, h.mem, h.out, fun i hi hx => by
    obtain ⟨q, h1, h2⟩ := h.pl i hi hx
    exact ⟨q, h1, hL i q hi hx h1 h2⟩⟩
theorem Plc.iff (h : Plc L S a ta X) (hX : ∀ i, X i ↔ Y i) : Plc L S a ta Y := by
  have : X = Y := funext fun i => propext (hX i)
  rw [← this]
  exact h
theorem Plc.whr_out (h : Plc L S a ta X) {i : Nat} (hi : X i) : S.whr i = none := Sl.whr_none.2 fun q hq => (h.mem q i hq).2 hi
theorem Plc.lt (h : Plc L S a ta X) {i : Nat} (hi : a.at_ i ≠ 0) : i < S.cells := by
  rw [h.cells]
  rcases Nat.lt_or_ge i a.has.length with q | q
  · exact q
  · exact absurd (Ar.at_out q) hi
/-- One is taken out. -/
theorem Plc.rem (h : Plc L S a ta X) {i : Nat} (hi : a.at_ i ≠ 0) (hx : ¬ X i) : Plc L (S.rem (i : Int)) a ta (fun j => X j ∨ j = i) := by
  obtain ⟨q, hq, _⟩ := h.pl i hi hx
  have hlt := Sl.at_lt hq
  have ha := Sl.at_put hlt ((S.at_ q).filter (· != i))
  have ok2 := Sl.ok_rem h.ok (i : Int)
  rw [Sl.rem_eq h.ok hq] at *
  refine ⟨ok2, h.cells, (Sl.put_len ..).trans h.len, fun r j hj => ?_, fun j hj => ?_, fun j hj hn => ?_⟩
  · rw [ha] at hj
    split at hj
    · obtain ⟨h1, h2⟩ := List.mem_filter.1 hj
      obtain ⟨m1, m2⟩ := h.mem _ _ h1
      exact ⟨m1, fun hh => hh.elim m2 (by simpa using h2)⟩
    · rename_i hr
      obtain ⟨m1, m2⟩ := h.mem _ _ hj
      refine ⟨m1, fun hh => hh.elim m2 fun e => hr ?_⟩
      subst e
      exact h.ok.one _ _ _ hj hq
  · rcases hj with hj | rfl
    · exact h.out j hj
    · exact hi
  · obtain ⟨r, h1, h2⟩ := h.pl j hj fun hh => hn (.inl hh)
    refine ⟨r, ?_, h2⟩
    rw [ha]
    split
    · rename_i e
      subst e
      exact List.mem_filter.2 ⟨h1, by simpa using fun e => hn (.inr e)⟩
    · exact h1
/-- One that is out is laid. -/
theorem Plc.push (h : Plc L S a ta X) {i q : Nat} (hi : X i) (hq : q < 1024) (hL : L (ta i) q) : Plc L (S.push (q : Int) (i : Int)) a ta (fun j => X j ∧ j ≠ i) := by
  have hlt : q < S.ls.length := by rw [h.len]; exact hq
  have ha := Sl.at_put hlt (S.at_ q ++ [i])
  have ok2 := Sl.ok_push h.ok (q : Int) (i : Int)
  rw [Sl.push_eq hlt (h.lt (h.out i hi)) (h.whr_out hi)] at *
  refine ⟨ok2, h.cells, (Sl.put_len ..).trans h.len, fun r j hj => ?_, fun j hj => h.out j hj.1, fun j hj hn => ?_⟩
  · rw [ha] at hj
    split at hj
    · rcases List.mem_append.1 hj with hj | hj
      · obtain ⟨m1, m2⟩ := h.mem _ _ hj
        exact ⟨m1, fun hh => m2 hh.1⟩
      · obtain rfl := List.mem_singleton.1 hj
        exact ⟨h.out _ hi, fun hh => hh.2 rfl⟩
    · obtain ⟨m1, m2⟩ := h.mem _ _ hj
      exact ⟨m1, fun hh => m2 hh.1⟩
  · by_cases e : j = i
    · subst e
      refine ⟨q, ?_, hL⟩
      rw [ha, if_pos rfl]
      simp
    · obtain ⟨r, h1, h2⟩ := h.pl j hj fun hh => hn ⟨hh, e⟩
      refine ⟨r, ?_, h2⟩
      rw [ha]
      split
      · rename_i e2
        subst e2
        exact List.mem_append_left _ h1
      · exact h1
/-- A list is emptied. -/
theorem Plc.emptied (h : Plc L S a ta X) {q : Nat} (hq : q < 1024) : Plc L (S.put q []) a ta (fun j => X j ∨ j ∈ S.at_ q) := by
  have hlt : q < S.ls.length := by rw [h.len]; exact hq
  have ha := Sl.at_put hlt []
  refine ⟨Sl.ok_put h.ok hlt List.nodup_nil (fun c hc => nomatch hc) (fun c j hc => nomatch hc), h.cells, (Sl.put_len ..).trans h.len, fun r j hj => ?_, fun j hj => ?_, fun j hj hn => ?_⟩
  · rw [ha] at hj
    split at hj
    · cases hj
    · rename_i hr
      obtain ⟨m1, m2⟩ := h.mem _ _ hj
      exact ⟨m1, fun hh => hh.elim m2 fun e => hr (h.ok.one _ _ _ hj e)⟩
  · rcases hj with hj | hj
    · exact h.out j hj
    · exact (h.mem _ _ hj).1
  · obtain ⟨r, h1, h2⟩ := h.pl j hj fun hh => hn (.inl hh)
    refine ⟨r, ?_, h2⟩
    rw [ha, if_neg (fun e => hn (.inr (by rw [← e]; exact h1)))]
    exact h1
/-- A cell is taken: it is out. -/
theorem Plc.take (h : Plc L S a ta X) (hs : a.Ok) {i : Nat} (hw : a.which = some i) : Plc L S (a.taken i) ta (fun j => X j ∨ j = i) := by
  have h0 := Ar.which_at hs hw
  have hat := Ar.at_taken hs hw
  have hlen : (a.taken i).has.length = a.has.length := List.length_set
  refine ⟨h.ok, h.cells.trans hlen.symm, h.len, fun q j hj => ?_, fun j hj => ?_, fun j hj hn => ?_⟩
  · obtain ⟨m1, m2⟩ := h.mem q j hj
    have hne : j ≠ i := fun e => m1 (by rw [e]; exact h0)
    rw [hat, if_neg hne]
    exact ⟨m1, fun hh => hh.elim m2 hne⟩
  · rw [hat]
    split
    · omega
    · rename_i e
      exact h.out j (hj.resolve_right e)
  · have hne : j ≠ i := fun e => hn (.inr e)
    rw [hat, if_neg hne] at hj
    exact h.pl j hj fun hh => hn (.inl hh)
/-- One that is out is freed. -/
theorem Plc.free (h : Plc L S a ta X) {i : Nat} (hi : X i) : Plc L S (a.gone i) ta (fun j => X j ∧ j ≠ i) := by
  have h0 := h.out i hi
  have hat := Ar.at_gone h0
  have hlen : (a.gone i).has.length = a.has.length := List.length_set
  refine ⟨h.ok, h.cells.trans hlen.symm, h.len, fun q j hj => ?_, fun j hj => ?_, fun j hj hn => ?_⟩
  · obtain ⟨m1, m2⟩ := h.mem q j hj
    rw [hat, if_neg (fun e => m2 (by rw [e]; exact hi))]
    exact ⟨m1, fun hh => m2 hh.1⟩
  · rw [hat, if_neg hj.2]
    exact h.out j hj.1
  · rw [hat] at hj
    split at hj
    · exact absurd rfl hj
    · rename_i e
      exact h.pl j hj fun hh => hn ⟨hh, e⟩
end
/-- Two lists that rise, of the same. -/
theorem rising_eq (f : Nat → Nat) : ∀ (l m : List Nat), l.Pairwise (fun a b => f a < f b) → m.Pairwise (fun a b => f a < f b) → (∀ x, x ∈ l ↔ x ∈ m) → l = m
  | [], [], _, _, _ => rfl
  | [], b :: m, _, _, h => absurd ((h b).2 (List.mem_cons_self ..)) List.not_mem_nil
  | a :: l, [], _, _, h => absurd ((h a).1 (List.mem_cons_self ..)) List.not_mem_nil
  | a :: l, b :: m, hl, hm, h => by
    obtain ⟨l1, l2⟩ := List.pairwise_cons.1 hl
    obtain ⟨m1, m2⟩ := List.pairwise_cons.1 hm
    have e : a = b := by
      rcases List.mem_cons.1 ((h a).1 (List.mem_cons_self ..)) with e | ha
      · exact e
      · rcases List.mem_cons.1 ((h b).2 (List.mem_cons_self ..)) with e | hb
        · exact e.symm
        · have := m1 a ha
          have := l1 b hb
          omega
    subst e
    congr 1
    refine rising_eq f l m l2 m2 fun x => ⟨fun hx => ?_, fun hx => ?_⟩
    · rcases List.mem_cons.1 ((h x).1 (List.mem_cons_of_mem _ hx)) with e | hx'
      · subst e
        exact absurd (l1 x hx) (Nat.lt_irrefl _)
      · exact hx'
    · rcases List.mem_cons.1 ((h x).2 (List.mem_cons_of_mem _ hx)) with e | hx'
      · subst e
        exact absurd (m1 x hx) (Nat.lt_irrefl _)
      · exact hx'
/-- The landed wheel's lists, and its timers' rows, stand for s. -/
structure WRep (s : Wh) (S : Sl) (ta tw tt : Nat → Nat) : Prop where
  lie : Plc (Std s.now) S s.a ta (fun _ => False)
  ent : ∀ t, t ∈ s.l → ta t.i = t.at_ ∧ tw t.i = t.what ∧ tt t.i ≤ s.tn
  ord : s.l.Pairwise fun t u => tt t.i < tt u.i
theorem Wh.nd_ne {s : Wh} (h : s.Ok) {i : Int} {k : Nat} {t : Tm} (ht : t ∈ s.l) (hi : (t.i : Int) = i) (hk : t.k = k) {u : Tm} (hu : u ∈ Wh.drop s.l i k) : u ∈ s.l ∧ u.i ≠ t.i := by
  obtain ⟨h1, h2⟩ := Wh.mem_drop.1 hu
  refine ⟨h1, fun e => ?_⟩
  rw [(Wh.drop_is h ht hi hk u h1).2 e] at h2
  cases h2
/-- A cell that is out gets its timer, and is laid. -/
theorem begin_plc {now at_ i tn : Nat} {S : Sl} {a : Ar} {ta : Nat → Nat} (hnow : now < 18446744073709551616) (ha : at_ < 18446744073709551616) (hlt : now < at_) (h : Plc (Std now) S a ta (fun j => False ∨ j = i)) : Plc (Std now) (S.push (plc now at_ : Int) (i : Int)) a (updN ta i at_) (fun _ => False) := by
  have h2 : Plc (Std now) S a (updN ta i at_) (fun j => False ∨ j = i) := h.imp fun j q _ hx _ hL => by
    rw [updN_ne (fun e => hx (.inr e))]
    exact hL
  refine (h2.push (q := plc now at_) (.inr rfl) (slt_lt (lev_le ..) _) ?_).iff fun j => ?_
  · rw [updN_same]
    exact std_lay (by omega) (by omega) hlt
  · constructor
    · rintro ⟨h | h, h'⟩
      · exact h
      · exact h' h
    · exact fun h => h.elim
theorem WRep.arm {s : Wh} {S : Sl} {ta tw tt : Nat → Nat} (h : WRep s S ta tw tt) (hs : s.Ok) {at_ what : Nat} (ha : at_ < 18446744073709551616) (ho : s.over at_ = false) {i : Nat} (hw : s.a.which = some i) :
    WRep (s.arm at_ what) (S.push (plc s.now (s.nxt at_) : Int) (i : Int)) (updN ta i (s.nxt at_)) (updN tw i what) (updN tt i (s.tn + 1)) := by
  have e : s.arm at_ what = ⟨s.a.taken i, s.l ++ [⟨i, s.a.serial + 1, s.nxt at_, what⟩], s.now, s.tn + 1⟩ := by
    unfold Wh.arm
    rw [ho, if_neg (by simp), hw]
  have h0 := Ar.which_at hs.a hw
  have hne : ∀ t, t ∈ s.l → t.i ≠ i := fun t ht e => by
    obtain ⟨h1, h2⟩ := hs.ent t ht
    rw [e, h0] at h1
    omega
  rw [e]
  refine ⟨begin_plc (tn := 0) hs.now (Wh.nxt_lt hs.now ho ha) (Wh.nxt_gt s at_) (h.lie.take hs.a hw), fun t ht => ?_, ?_⟩
  · rcases List.mem_append.1 ht with q | q
    · rw [updN_ne (hne t q), updN_ne (hne t q), updN_ne (hne t q)]
      obtain ⟨h1, h2, h3⟩ := h.ent t q
      exact ⟨h1, h2, Nat.le_succ_of_le h3⟩
    · obtain rfl := List.mem_singleton.1 q
      exact ⟨updN_same .., updN_same .., by rw [updN_same]; exact Nat.le_refl _⟩
  · show (s.l ++ [_]).Pairwise _
    refine List.pairwise_append.2 ⟨?_, List.pairwise_singleton .., fun t ht u hu => ?_⟩
    · refine h.ord.imp_of_mem fun {t u} ht hu q => ?_
      rw [updN_ne (hne t ht), updN_ne (hne u hu)]
      exact q
    · obtain rfl := List.mem_singleton.1 hu
      rw [updN_ne (hne t ht), updN_same]
      have := (h.ent t ht).2.2
      omega
theorem WRep.again {s : Wh} {S : Sl} {ta tw tt : Nat → Nat} (h : WRep s S ta tw tt) (hs : s.Ok) {at_ : Nat} (ha : at_ < 18446744073709551616) (ho : s.over at_ = false) {i k : Nat} (hl : s.a.live (i : Int) k = true) :
    WRep (s.again (i : Int) k at_) ((S.rem (i : Int)).push (plc s.now (s.nxt at_) : Int) (i : Int)) (updN ta i (s.nxt at_)) tw (updN tt i (s.tn + 1)) := by
  obtain ⟨t, ht, hi, hk, hf⟩ := Wh.live_ent hs hl
  have hi' : t.i = i := by omega
  subst hi'
  have e : s.again (t.i : Int) k at_ = ⟨s.a, Wh.drop s.l (t.i : Int) k ++ [⟨t.i, t.k, s.nxt at_, t.what⟩], s.now, s.tn + 1⟩ := by
    unfold Wh.again
    rw [hf]
    dsimp only
    rw [ho, if_neg (by simp)]
  have h0 : s.a.at_ t.i ≠ 0 := by
    rw [(hs.ent t ht).1]
    exact (hs.ent t ht).2
  have hne : ∀ u, u ∈ Wh.drop s.l (t.i : Int) k → u ∈ s.l ∧ u.i ≠ t.i := fun u hu => Wh.nd_ne hs ht rfl hk hu
  rw [e]
  refine ⟨begin_plc (tn := 0) hs.now (Wh.nxt_lt hs.now ho ha) (Wh.nxt_gt s at_) (h.lie.rem h0 id), fun u hu => ?_, ?_⟩
  · rcases List.mem_append.1 hu with q | q
    · obtain ⟨q1, q2⟩ := hne u q
      rw [updN_ne q2, updN_ne q2]
      obtain ⟨h1, h2, h3⟩ := h.ent u q1
      exact ⟨h1, h2, Nat.le_succ_of_le h3⟩
    · obtain rfl := List.mem_singleton.1 q
      exact ⟨updN_same .., (h.ent t ht).2.1, by rw [updN_same]; exact Nat.le_refl _⟩
  · show (Wh.drop s.l (t.i : Int) k ++ [_]).Pairwise _
    refine List.pairwise_append.2 ⟨?_, List.pairwise_singleton .., fun u hu v hv => ?_⟩
    · refine (h.ord.sublist List.filter_sublist).imp_of_mem fun {u v} hu hv q => ?_
      rw [updN_ne (hne u hu).2, updN_ne (hne v hv).2]
      exact q
    · obtain rfl := List.mem_singleton.1 hv
      rw [updN_ne (hne u hu).2, updN_same]
      have := (h.ent u (hne u hu).1).2.2
      omega
theorem WRep.cancel {s : Wh} {S : Sl} {ta tw tt ta' tw' tt' : Nat → Nat} (h : WRep s S ta tw tt) (hs : s.Ok) {i k : Nat} (hl : s.a.live (i : Int) k = true) (h1 : ∀ j, j ≠ i → ta' j = ta j) (h2 : ∀ j, j ≠ i → tw' j = tw j) (h3 : ∀ j, j ≠ i → tt' j = tt j) :
    WRep (s.cancel (i : Int) k) (S.rem (i : Int)) ta' tw' tt' := by
  obtain ⟨t, ht, hi, hk, hf⟩ := Wh.live_ent hs hl
  have hi' : t.i = i := by omega
  subst hi'
  have e : s.cancel (t.i : Int) k = ⟨s.a.gone t.i, Wh.drop s.l (t.i : Int) k, s.now, s.tn⟩ := by
    unfold Wh.cancel
    rw [hl, if_pos rfl]
    rfl
  have h0 : s.a.at_ t.i ≠ 0 := by
    rw [(hs.ent t ht).1]
    exact (hs.ent t ht).2
  have hne : ∀ u, u ∈ Wh.drop s.l (t.i : Int) k → u ∈ s.l ∧ u.i ≠ t.i := fun u hu => Wh.nd_ne hs ht rfl hk hu
  rw [e]
  refine ⟨((h.lie.rem h0 id).free (.inr rfl)).imp (fun j q hj _ _ hL => ?_) |>.iff fun j => ?_, fun u hu => ?_, ?_⟩
  · have hj : (s.a.gone t.i).at_ j ≠ 0 := hj
    rw [Ar.at_gone h0] at hj
    split at hj
    · exact absurd rfl hj
    · rename_i hne
      rw [h1 j hne]
      exact hL
  · constructor
    · rintro ⟨h | h, h'⟩
      · exact h
      · exact h' h
    · exact fun h => h.elim
  · obtain ⟨q1, q2⟩ := hne u hu
    rw [h1 _ q2, h2 _ q2, h3 _ q2]
    exact h.ent u q1
  · refine (h.ord.sublist List.filter_sublist).imp_of_mem fun {u v} hu hv q => ?_
    rw [h3 _ (hne u hu).2, h3 _ (hne v hv).2]
    exact q
theorem WRep.new (n : Nat) : WRep (Wh.new n) (Sl.new 1024 n) (fun _ => 0) (fun _ => 0) (fun _ => 0) := by
  have h0 : ∀ i, (Ar.new n).at_ i = 0 := by
    intro i
    unfold Ar.at_ Ar.new
    rw [List.getElem?_replicate]
    split <;> rfl
  refine ⟨⟨Sl.ok_new _ _, ?_, List.length_replicate, fun q i hi => ?_, fun i h => h.elim, fun i hi _ => absurd (h0 i) hi⟩, (fun t h => nomatch h), List.Pairwise.nil⟩
  · show n = (List.replicate n 0).length
    rw [List.length_replicate]
  · rw [Sl.at_new] at hi
    cases hi
/-- A tick: what is due lies in one list. -/
theorem WRep.next {s : Wh} {S : Sl} {ta tw tt : Nat → Nat} (h : WRep s S ta tw tt) : Plc (Lse 3 (s.now + 1)) S s.a ta (fun _ => False) := h.lie.imp fun _ _ _ _ _ hL => lse_of_std hL
theorem due_iff {s : Wh} {S S' : Sl} {ta tw tt : Nat → Nat} (h : WRep s S ta tw tt) (hs : s.Ok) (h' : Plc (Lse 0 (s.now + 1)) S' s.a ta (fun _ => False)) (i : Nat) : i ∈ S'.at_ (slt 0 (s.now + 1)) ↔ i ∈ s.fires.map Tm.i := by
  constructor
  · intro hi
    have hl := (h'.mem _ _ hi).1
    obtain ⟨q, hq, hL⟩ := h'.pl i hl id
    obtain ⟨t, ht, e⟩ := hs.all i hl
    refine List.mem_map.2 ⟨t, Wh.mem_fires.2 ⟨ht, ?_⟩, e⟩
    have := h'.ok.one _ _ _ hq hi
    have := (lse_due (by omega) hL).1 this
    have h2 := (h.ent t ht).1
    rw [e] at h2
    omega
  · intro hi
    obtain ⟨t, ht, rfl⟩ := List.mem_map.1 hi
    obtain ⟨h1, h2⟩ := Wh.mem_fires.1 ht
    obtain ⟨e1, e2⟩ := hs.ent t h1
    obtain ⟨q, hq, hL⟩ := h'.pl t.i (by rw [e1]; exact e2) id
    have := (lse_due (by omega) hL).2 (by rw [(h.ent t h1).1]; exact h2)
    rw [← this]
    exact hq
/-- What is due, sorted by the turns, is what fires. -/
theorem due_sorted {s : Wh} {S S' : Sl} {ta tw tt : Nat → Nat} (h : WRep s S ta tw tt) (hs : s.Ok) (h' : Plc (Lse 0 (s.now + 1)) S' s.a ta (fun _ => False)) {D : List Nat} (hp : D.Perm (S'.at_ (slt 0 (s.now + 1)))) (ho : D.Pairwise fun a b => ¬ tt b < tt a) : D = s.fires.map Tm.i := by
  have hnd : D.Nodup := hp.nodup_iff.2 (h'.ok.nodup _)
  have hm : ∀ x, x ∈ D ↔ x ∈ s.fires.map Tm.i := fun x => hp.mem_iff.trans (due_iff h hs h' x)
  have hfo : (s.fires.map Tm.i).Pairwise fun a b => tt a < tt b := by
    rw [List.pairwise_map]
    exact h.ord.sublist List.filter_sublist
  have inj : ∀ a b, a ∈ s.fires.map Tm.i → b ∈ s.fires.map Tm.i → tt a = tt b → a = b := fun a b ha hb e => by
    obtain ⟨i, hi, rfl⟩ := List.getElem_of_mem ha
    obtain ⟨j, hj, rfl⟩ := List.getElem_of_mem hb
    have hq := List.pairwise_iff_getElem.1 hfo
    rcases Nat.lt_trichotomy i j with q | q | q
    · have := hq i j hi hj q
      omega
    · subst q
      rfl
    · have := hq j i hj hi q
      omega
  refine rising_eq tt D _ ?_ hfo hm
  refine (ho.and hnd).imp_of_mem fun {a b} ha hb q => ?_
  obtain ⟨q1, q2⟩ := q
  rcases Nat.lt_or_ge (tt a) (tt b) with q | q
  · exact q
  · exact absurd (inj a b ((hm a).1 ha) ((hm b).1 hb) (by omega)) q2
/-- Behind the tick. -/
theorem WRep.ticked {s : Wh} {S S' S2 : Sl} {ta tw tt ta' tw' tt' : Nat → Nat} (h : WRep s S ta tw tt) (hs : s.Ok) (h' : Plc (Lse 0 (s.now + 1)) S2 (goneL s.a (s.fires.map Tm.i)) ta' (fun _ => False))
    (h1 : ∀ j, ¬ j ∈ s.fires.map Tm.i → ta' j = ta j) (h2 : ∀ j, ¬ j ∈ s.fires.map Tm.i → tw' j = tw j) (h3 : ∀ j, ¬ j ∈ s.fires.map Tm.i → tt' j = tt j) : WRep s.ticked S2 ta' tw' tt' := by
  obtain ⟨f1, f2, f3⟩ := Wh.fires_facts hs
  obtain ⟨g1, g2, g3, g4, g5⟩ := goneL_facts _ s.a hs.a f1 f2
  have hout : ∀ t, t ∈ s.stay → t ∈ s.l ∧ t.at_ ≠ s.now + 1 ∧ ¬ t.i ∈ s.fires.map Tm.i := fun t ht => by
    obtain ⟨m1, m2⟩ := Wh.mem_stay.1 ht
    refine ⟨m1, m2, fun hm => ?_⟩
    obtain ⟨u, hu, e⟩ := List.mem_map.1 hm
    obtain ⟨h1, h2⟩ := Wh.mem_fires.1 hu
    rw [Wh.one_of hs.nd h1 m1 e] at h2
    exact m2 h2
  refine ⟨h'.imp fun j q hj _ _ hL => ?_, fun t ht => ?_, ?_⟩
  · refine std_of_lse (Nat.succ_pos _) hL fun e => ?_
    have hj : (goneL s.a (s.fires.map Tm.i)).at_ j ≠ 0 := hj
    rw [g2] at hj
    split at hj
    · exact absurd rfl hj
    · rename_i hm
      obtain ⟨t, ht, rfl⟩ := hs.all j hj
      refine hm (List.mem_map.2 ⟨t, Wh.mem_fires.2 ⟨ht, ?_⟩, rfl⟩)
      rw [← (h.ent t ht).1, ← h1 _ hm]
      exact e
  · obtain ⟨m1, _, m3⟩ := hout t ht
    rw [h1 _ m3, h2 _ m3, h3 _ m3]
    exact h.ent t m1
  · refine (h.ord.sublist List.filter_sublist).imp_of_mem fun {u v} hu hv q => ?_
    rw [h3 _ (hout u hu).2.2, h3 _ (hout v hv).2.2]
    exact q
end Go.Proofs.YtimcdnbfdkpffaaGreat
/- Stage 9's pure words: what is live in an arena, by cells: each taken cell's handle, from the first cell on; they are as many as are taken; what is told is live, and all that is live is told. -/
namespace Go.Proofs.YtimcdnbfdkpffaaGreat
namespace Ar
/-- The handles of the taken cells among the first n. -/
def told (s : Ar) (n : Nat) : List (Nat × Nat) := ((List.range n).filter (fun i => s.at_ i != 0)).map (fun i => (i, s.at_ i))
end Ar
end Go.Proofs.YtimcdnbfdkpffaaGreat
