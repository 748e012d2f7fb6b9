/- IcmpTurned: what its walk wants; its bytes in words. -/
import Derived.Test.YtfaelihfjmaekaaIk
import Derived.Lib.SliceRun
namespace Go.Proofs.Ytfaelihfjmaekaa
open Go.RowKit
def arr20 (f : Nat → Int) : Array Value := #[.int .u8 (f 0), .int .u8 (f 1), .int .u8 (f 2), .int .u8 (f 3), .int .u8 (f 4), .int .u8 (f 5), .int .u8 (f 6), .int .u8 (f 7), .int .u8 (f 8), .int .u8 (f 9), .int .u8 (f 10), .int .u8 (f 11), .int .u8 (f 12), .int .u8 (f 13), .int .u8 (f 14), .int .u8 (f 15), .int .u8 (f 16), .int .u8 (f 17), .int .u8 (f 18), .int .u8 (f 19)]
theorem arr20_eq (f : Nat → Int) : ((nums 20 f).map (Value.int .u8)).toArray = arr20 f := rfl
theorem arr20_get (f : Nat → Int) (k : Nat) (hk : k < 20) : (arr20 f)[0 + k]? = some (.int .u8 (f k)) := by
  rw [Nat.zero_add]
  match k, hk with
  | 0, _ => rfl
  | 1, _ => rfl
  | 2, _ => rfl
  | 3, _ => rfl
  | 4, _ => rfl
  | 5, _ => rfl
  | 6, _ => rfl
  | 7, _ => rfl
  | 8, _ => rfl
  | 9, _ => rfl
  | 10, _ => rfl
  | 11, _ => rfl
  | 12, _ => rfl
  | 13, _ => rfl
  | 14, _ => rfl
  | 15, _ => rfl
  | 16, _ => rfl
  | 17, _ => rfl
  | 18, _ => rfl
  | 19, _ => rfl
  | k + 20, h => exact absurd h (by omega)
theorem tup_srcs (v : Bool) (pr : Int) (s d : Nat → Int) (sp dp : Int) (k : Nat) (hk : k < 16) : (tupc v pr s d sp dp)[2 + k]? = some (.int .u8 (s k)) := by
  match k, hk with
  | 0, _ => rfl
  | 1, _ => rfl
  | 2, _ => rfl
  | 3, _ => rfl
  | 4, _ => rfl
  | 5, _ => rfl
  | 6, _ => rfl
  | 7, _ => rfl
  | 8, _ => rfl
  | 9, _ => rfl
  | 10, _ => rfl
  | 11, _ => rfl
  | 12, _ => rfl
  | 13, _ => rfl
  | 14, _ => rfl
  | 15, _ => rfl
  | k + 16, h => exact absurd h (by omega)
theorem tup_dsts (v : Bool) (pr : Int) (s d : Nat → Int) (sp dp : Int) (k : Nat) (hk : k < 16) : (tupc v pr s d sp dp)[18 + k]? = some (.int .u8 (d k)) := by
  match k, hk with
  | 0, _ => rfl
  | 1, _ => rfl
  | 2, _ => rfl
  | 3, _ => rfl
  | 4, _ => rfl
  | 5, _ => rfl
  | 6, _ => rfl
  | 7, _ => rfl
  | 8, _ => rfl
  | 9, _ => rfl
  | 10, _ => rfl
  | 11, _ => rfl
  | 12, _ => rfl
  | 13, _ => rfl
  | 14, _ => rfl
  | 15, _ => rfl
  | k + 16, h => exact absurd h (by omega)
/-- An array that lies in a block. -/
theorem blk_range {W : World} {g o : Nat} {cs : Array Value} {t : TypeId} {f : Nat → Int} (h : W.heap[g]? = some (.cells cs t (0, 0))) (hf : ∀ k, k < 16 → cs[o + k]? = some (.int .u8 (f k))) : W.rangeAt g o (arr16 f).toList := fun j v hv => by
  have hj : j < 16 := by
    rcases Nat.lt_or_ge j 16 with q | q
    · exact q
    · rw [List.getElem?_eq_none (by simpa [arr16] using q)] at hv; cases hv
  rw [blk_cell h (o + j), hf j hj, ← hv]
  simpa using (arr16_get f j hj).symm
theorem wpList_tup {ops : Array Oper} {rest : List Oper} {op : Oper} {a : Act} {w : World} {Q : Exit → Act → World → Prop} (hw : Region.wanted op (yielded ops a.tmps) = true) (x0 x1 x2 x3 x4 x5 : Operand) (ho : op.op = .build 27 #[(0, x0), (1, x1), (2, x2), (3, x3), (4, x4), (5, x5)])
    (v : Bool) (pr : Int) (s d : Nat → Int) (sp dp : Int) (h0 : a.eval x0 = .bool v) (h1 : a.eval x1 = .int .u8 pr) (h2 : a.eval x2 = .agg (arr16 s)) (h3 : a.eval x3 = .agg (arr16 d)) (h4 : a.eval x4 = .int .u16 sp) (h5 : a.eval x5 = .int .u16 dp)
    (h : wpList Try.prog ops Q rest (a.put op.dst (.agg (tupc v pr s d sp dp))) w) : wpList Try.prog ops Q (op :: rest) a w := by
  have hb : (Instr.build 27 #[(0, .bool v), (1, .int .u8 pr), (2, .agg (arr16 s)), (3, .agg (arr16 d)), (4, .int .u16 sp), (5, .int .u16 dp)]).run Try.prog w = .ok (.agg (tupc v pr s d sp dp)) w := by kernel_rfl
  refine BigFrame.wpList_want hw fun K hK => ?_
  unfold Oper.wp execOp
  simp only [ho, List.map_toArray, List.map_cons, List.map_nil, h0, h1, h2, h3, h4, h5, Sem.run_bind, Sem.run_pure, Result.andThen_ok, hb]
  exact hK _ _ h
/-- 'clear(s)' over bytes. -/
theorem wpList_clear {P : Program} {ops : Array Oper} {rest : List Oper} {op : Oper} {a : Act} {w : World} {Q : Exit → Act → World → Prop} (hw : Region.wanted op (yielded ops a.tmps) = true) (x : Operand) (t : TypeId)
    (hop : op.op = .call { callee := .builtin .clear, args := #[x], argTypes := #[t] }) (e : TypeId) (ht : P.underlying t = some (.slice e)) (hv : ∀ w, (zeroValue e).run P w = .ok (.int .u8 0) w) (b o n c : Nat) (hn : 0 < n)
    (hx : a.eval x = .slice (some ⟨b, o, none⟩) n c) (hth : w.there b o n) (h : wpList P ops Q rest (a.put op.dst (.tuple #[])) (w.setCells b o (List.replicate n (.int .u8 0)))) : wpList P ops Q (op :: rest) a w := by
  have hrun := Lib.run_clear_slice (P := P) w t e op.type (.int .u8 0) ht hv rfl rfl b o n c hn (fun j hj => (hth j hj).1) (fun j hj => (hth j hj).2)
  refine BigFrame.wpList_want hw fun K hK => ?_
  unfold Oper.wp execOp
  simp only [hop, resolve, invoke, builtin, Sem.run_bind, Sem.run_pure, Result.andThen_ok, List.map_toArray, List.map_cons, List.map_nil, hx, hrun]
  exact hK _ _ h
/-- An append onto bytes that are full, whosever they are: new memory. -/
theorem run_append_onto {P : Program} {w : World} (t ty e : TypeId) (i : TypeInfo) (ht : P.underlying t = some (.slice e)) (hi : P.info? e = some i) (hz : i.zero = some (.int .u8 0)) (hsize : i.size = 1) (hby : i.bytes = 1)
    {B0 k : Nat} {A0 : Option Addr} {h0 : Nat → Int} (hold : Rd w B0 A0 k h0) (hk : 0 < k) {B m c' : Nat} {A' : Option Addr} {g : Nat → Int} (hr : Rd w B A' m g) (hm : 0 < m) (hlen : k + m ≤ 70368744177664) :
    ∃ A2 c2 w', (Builtin.append_ #[t, t] ty #[.slice A0 k k, .slice A' m c']).run P w = .ok (.slice A2 (k + m) c2) w' ∧ Own w' w.heap.size e A2 (k + m) c2 (cat k h0 g) ∧ Below w.heap.size w w' := by
  rcases hold with h | ⟨g0, o0, rfl, _, hcell⟩
  · omega
  rcases hr with h | ⟨b, off, rfl, hlt, hc⟩
  · omega
  have hl : ((nums m g).map (Value.int .u8)).length = m * i.size := by rw [hsize]; simp [nums_len]
  have hlo : ((nums k h0).map (Value.int .u8)).length = k * i.size := by rw [hsize]; simp [nums_len]
  have add : ∀ b off j : Nat, (⟨b, off, none⟩ : Addr).add j = ⟨b, off + j, none⟩ := fun b off j => by unfold Addr.add; split <;> simp_all
  have hnews : ∀ j v, ((nums m g).map (Value.int .u8))[j]? = some v → w.cell? ((⟨b, off, none⟩ : Addr).add j) = some v := fun j v hv => by
    have hj : j < m := by
      rcases Nat.lt_or_ge j m with q | q
      · exact q
      · rw [List.getElem?_eq_none (by simpa [nums_len] using q)] at hv; cases hv
    rw [add, hc j hj]
    simpa [nums, List.getElem?_map, List.getElem?_range hj] using hv
  have holds : ∀ j v, ((nums k h0).map (Value.int .u8))[j]? = some v → w.cell? ((⟨g0, o0, none⟩ : Addr).add j) = some v := fun j v hv => by
    have hj : j < k := by
      rcases Nat.lt_or_ge j k with q | q
      · exact q
      · rw [List.getElem?_eq_none (by simpa [nums_len] using q)] at hv; cases hv
    rw [add, hcell j hj]
    simpa [nums, List.getElem?_map, List.getElem?_range hj] using hv
  have hrun := run_append_grow (P := P) w t ty e i (.int .u8 0) ht hi hz ⟨g0, o0, none⟩ k k ((nums k h0).map (Value.int .u8)) hlo holds ⟨b, off, none⟩ m c' ((nums m g).map (Value.int .u8)) hl hnews (by omega) (by omega) (by
    have := nextslicecap_le (need := k + m) (old := k) (by omega)
    rw [hby]
    omega)
  refine ⟨_, _, _, hrun, ?_, ?_⟩
  · have hge := grownCap_ge w (k + m) k e
    have hcm : grownCap w (k + m) k e ≤ maxLen := grownCap_le_maxLen w (k + m) k e (by unfold maxLen; omega)
    refine ⟨by simp [nums_len], .inr ⟨w.heap.size, _, _, rfl, Nat.le_refl _, heap_alloc_new w.drew _, hge, hcm, ?_, ?_⟩⟩
    · simp [size_zeroCells, nums_len, Value.cells]
      omega
    · have e1 : ((nums k h0).map (Value.int .u8) ++ (nums m g).map (Value.int .u8)) = (nums (k + m) (cat k h0 g)).map (Value.int .u8) := by rw [nums_cat, List.map_append]
      have e2 : ((nums (k + m) (cat k h0 g)).map (Value.int .u8)).length = k + m := by simp [nums_len]
      rw [Array.toList_append, Array.toList_append, List.toList_toArray, List.toList_toArray, e1]
      rw [List.take_append_of_le_length (by rw [e2]; omega), List.take_of_length_le (by rw [e2]; omega)]
  · exact (below_alloc w.drew _ : Below w.drew.heap.size w.drew _) |> fun q => ⟨q.os, q.tape, q.output, q.size, q.block⟩
theorem wpList_append_onto {P : Program} {w : World} {ops : Array Oper} {rest : List Oper} {o : Oper} {a : Act} {Q : Exit → Act → World → Prop} (hgd : Region.wanted o (yielded ops a.tmps) = true) (s x : Operand) (t : TypeId)
    (ho : o.op = .call { callee := .builtin .append, args := #[s, x], argTypes := #[t, t] }) (e : TypeId) (i : TypeInfo) (ht : P.underlying t = some (.slice e)) (hi : P.info? e = some i) (hz : i.zero = some (.int .u8 0)) (hsize : i.size = 1) (hby : i.bytes = 1)
    {B0 k : Nat} {A0 : Option Addr} {h0 : Nat → Int} (hs : a.eval s = .slice A0 k k) (hold : Rd w B0 A0 k h0) (hk : 0 < k) {B m c' : Nat} {A' : Option Addr} {g : Nat → Int} (hx : a.eval x = .slice A' m c') (hr : Rd w B A' m g) (hm : 0 < m) (hlen : k + m ≤ 70368744177664)
    (h : ∀ A2 c2 w', Own w' w.heap.size e A2 (k + m) c2 (cat k h0 g) → Below w.heap.size w w' → wpList P ops Q rest (a.put o.dst (.slice A2 (k + m) c2)) w') : wpList P ops Q (o :: rest) a w := by
  refine BigFrame.wpList_want hgd fun K hK => ?_
  obtain ⟨A2, c2, w', hrun, h2, h3⟩ := run_append_onto (P := P) t o.type e i ht hi hz hsize hby hold hk hr hm hlen (c' := c')
  unfold Oper.wp execOp
  simp only [ho, resolve, invoke, builtin, Sem.run_bind, Sem.run_pure, Result.andThen_ok, List.map_toArray, List.map_cons, List.map_nil, hs, hx, hrun]
  exact hK _ _ (h A2 c2 w' h2 h3)
/-- The ports and four bytes more. -/
def tl8 (sp dp : Int) (k : Nat) : Int := if k = 0 then sp / 256 else if k = 1 then sp % 256 else if k = 2 then dp / 256 else if k = 3 then dp % 256 else if k = 4 then 1 else if k = 5 then 2 else if k = 6 then 3 else if k = 7 then 4 else 0
theorem tl8_byt {sp dp : Int} (h1 : 0 ≤ sp ∧ sp ≤ 65535) (h2 : 0 ≤ dp ∧ dp ≤ 65535) : Byt (tl8 sp dp) := fun k => by
  unfold tl8
  repeat' split
  all_goals omega
def hd8 (P : Int) (h : Nat → Int) (k : Nat) : Int := if k = 0 then 96 else if k = 6 then P else h k
theorem hd8_byt {P : Int} {h : Nat → Int} (hP : 0 ≤ P ∧ P ≤ 255) (hh : Byt h) : Byt (hd8 P h) := fun k => by
  have := hh k
  unfold hd8
  repeat' split
  all_goals omega
def bts6 (P : Int) (h s d : Nat → Int) (sp dp : Int) : Nat → Int := cat 40 (cat 24 (cat 8 (hd8 P h) s) d) (tl8 sp dp)
theorem bts6_byt {P : Int} {h s d : Nat → Int} {sp dp : Int} (hP : 0 ≤ P ∧ P ≤ 255) (hh : Byt h) (hs : Byt s) (hd : Byt d) (h1 : 0 ≤ sp ∧ sp ≤ 65535) (h2 : 0 ≤ dp ∧ dp ≤ 65535) : Byt (bts6 P h s d sp dp) :=
  cat_byt 40 (cat_byt 24 (cat_byt 8 (hd8_byt hP hh) hs) hd) (tl8_byt h1 h2)
/-- What Within tells of the flow's packet (IPv6). -/
theorem turn6_flow (P : Int) (hP : P = 6 ∨ P = 17) (h s d : Nat → Int) (sp dp : Int) (h1 : 0 ≤ sp ∧ sp ≤ 65535) (h2 : 0 ≤ dp ∧ dp ≤ 65535) :
    winE true (bts6 P h s d sp dp) 48 = 0 ∧ winE false (bts6 P h s d sp dp) 48 = 5 ∧ wT true (bts6 P h s d sp dp) 48 = tupc true P d s dp sp := by
  have e0 : bts6 P h s d sp dp 0 = 96 := by simp [bts6, cat, hd8]
  have e6 : bts6 P h s d sp dp 6 = P := by simp [bts6, cat, hd8]
  obtain ⟨a, b, c⟩ := win_turn6 e0 (by rw [e6]; exact hP)
  refine ⟨a, c, ?_⟩
  rw [wT_ok a b, e6]
  have e40 : w2 (bts6 P h s d sp dp) 40 = sp := by simp [w2, bts6, cat, tl8]; omega
  have e42 : w2 (bts6 P h s d sp dp) (40 + 2) = dp := by simp [w2, bts6, cat, tl8]; omega
  rw [e40, e42]
  refine tup_same (fun k hk => ?_) (fun k hk => ?_)
  · show winA true _ 16 24 k = _
    unfold winA bts6 cat
    rw [if_pos rfl, if_pos (by omega), if_neg (by omega)]
    congr 1
    omega
  · show winA true _ 12 8 k = _
    unfold winA bts6 cat
    rw [if_pos rfl, if_pos (by omega), if_pos (by omega), if_neg (by omega)]
    congr 1
    omega
def hd20 (P x : Int) (h s d : Nat → Int) (k : Nat) : Int := if k = 0 then 69 else if k = 6 then x else if k = 7 then 0 else if k = 9 then P else if k < 12 then h k else if k < 16 then s (k - 12) else d (k - 16)
theorem hd20_byt {P x : Int} {h s d : Nat → Int} (hP : 0 ≤ P ∧ P ≤ 255) (hx : 0 ≤ x ∧ x ≤ 255) (hh : Byt h) (hs : Byt s) (hd : Byt d) : Byt (hd20 P x h s d) := fun k => by
  have := hh k
  have := hs (k - 12)
  have := hd (k - 16)
  unfold hd20
  repeat' split
  all_goals omega
def bts4 (P x : Int) (h s d : Nat → Int) (sp dp : Int) : Nat → Int := cat 20 (hd20 P x h s d) (tl8 sp dp)
def low4 (s : Nat → Int) (k : Nat) : Int := if k < 4 then s k else 0
theorem turn4_flow (P x : Int) (hP : P = 6 ∨ P = 17) (hx : x % 32 = 0) (h s d : Nat → Int) (sp dp : Int) (h1 : 0 ≤ sp ∧ sp ≤ 65535) (h2 : 0 ≤ dp ∧ dp ≤ 65535) :
    winE false (bts4 P x h s d sp dp) 28 = 0 ∧ winE true (bts4 P x h s d sp dp) 28 = 4 ∧ wT false (bts4 P x h s d sp dp) 28 = tupc false P (low4 d) (low4 s) dp sp := by
  have e0 : bts4 P x h s d sp dp 0 = 69 := by simp [bts4, cat, hd20]
  have e9 : bts4 P x h s d sp dp 9 = P := by simp [bts4, cat, hd20]
  have e6 : w2 (bts4 P x h s d sp dp) 6 % 8192 = 0 := by simp [w2, bts4, cat, hd20]; omega
  obtain ⟨a, b, c⟩ := win_turn4 e0 e6 (by rw [e9]; exact hP)
  refine ⟨a, c, ?_⟩
  rw [wT_ok a b, e9]
  have e20 : w2 (bts4 P x h s d sp dp) 20 = sp := by simp [w2, bts4, cat, tl8]; omega
  have e22 : w2 (bts4 P x h s d sp dp) (20 + 2) = dp := by simp [w2, bts4, cat, tl8]; omega
  rw [e20, e22]
  refine tup_same (fun k hk => ?_) (fun k hk => ?_)
  · show winA false _ 16 24 k = _
    unfold winA low4 bts4 cat hd20
    rw [if_neg (show ¬ (false = true) by decide)]
    by_cases h4 : k < 4
    · rw [if_pos h4, if_pos h4, if_pos (by omega), if_neg (by omega), if_neg (by omega), if_neg (by omega), if_neg (by omega), if_neg (by omega), if_neg (by omega)]
      congr 1
      omega
    · rw [if_neg h4, if_neg h4]
  · show winA false _ 12 8 k = _
    unfold winA low4 bts4 cat hd20
    rw [if_neg (show ¬ (false = true) by decide)]
    by_cases h4 : k < 4
    · rw [if_pos h4, if_pos h4, if_pos (by omega), if_neg (by omega), if_neg (by omega), if_neg (by omega), if_neg (by omega), if_neg (by omega), if_pos (by omega)]
      congr 1
      omega
    · rw [if_neg h4, if_neg h4]
theorem and224_nat : ∀ n : Nat, n < 256 → (bits .and .u8 (n : Int) 224) % 32 = 0 ∧ 0 ≤ bits .and .u8 (n : Int) 224 ∧ bits .and .u8 (n : Int) 224 ≤ 255 := by decide +kernel
theorem and224 {x : Int} (h : 0 ≤ x ∧ x ≤ 255) : ∃ y, bits .and .u8 x 224 = y ∧ y % 32 = 0 ∧ 0 ≤ y ∧ y ≤ 255 := by
  obtain ⟨n, rfl⟩ := Int.eq_ofNat_of_zero_le h.1
  exact ⟨_, rfl, and224_nat n (by omega)⟩
end Go.Proofs.Ytfaelihfjmaekaa
