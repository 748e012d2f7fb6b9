import Derived.Test.YthjgecdnlpdcdaaM44
/- Layer 8, the program: open, and what a datagram says. -/
namespace Go.Proofs.Ythjgecdnlpdcdaa
set_option maxRecDepth 100000
open Go.RowKit
theorem wpList_os {ops : Array Oper} {rest : List Oper} {op : Oper} {a : Act} {w : World} {Q : Exit → Act → World → Prop} (hw : Region.wanted op (yielded ops a.tmps) = true) (x0 x1 x2 x3 : Operand) (ho : op.op = .build 44 #[(0, x0), (1, x1), (2, x2), (3, x3)])
    (s d : Nat → Int) (p : Int) (A : Option Addr) (n c : Nat) (h0 : a.eval x0 = .agg (arr16 s)) (h1 : a.eval x1 = .agg (arr16 d)) (h2 : a.eval x2 = .int .u8 p) (h3 : a.eval x3 = .slice A n c)
    (h : wpList Try.prog ops Q rest (a.put op.dst (.agg (outs s d p (.slice A n c)))) w) : wpList Try.prog ops Q (op :: rest) a w := by
  have hb : (Instr.build 44 #[(0, .agg (arr16 s)), (1, .agg (arr16 d)), (2, .int .u8 p), (3, .slice A n c)]).run Try.prog w = .ok (.agg (outs s d p (.slice A n c))) w := by kernel_rfl
  refine BigFrame.wpList_want hw fun K hK => ?_
  unfold Oper.wp execOp
  simp only [ho, List.map_toArray, List.map_cons, List.map_nil, h0, h1, h2, h3, Sem.run_bind, Sem.run_pure, Result.andThen_ok, hb]
  exact hK _ _ h
/-- What an IP packet's reader tells, as layer 8 looks at it. -/
def IpR (z : Array Value) (hd : (Nat → Int) → (Nat → Int) → Int → Array Value → Prop) (v : Bool) (g : Nat → Int) (n : Nat) (w : World) (e : Ending) (w' : World) : Prop :=
  (otE v g n ≠ 0 ∧ e = .returned (.tuple #[.agg z, .slice none 0 0, .int .i64 (otE v g n)]) ∧ Below w.heap.size w w') ∨
  (otE v g n = 0 ∧ ∃ C I ic, hd (otS v g) (otD v g) (otP v g) C ∧ e = .returned (.tuple #[.agg C, .slice I (otR v g) ic, .int .i64 0]) ∧ Own w' w.heap.size 5 I (otR v g) ic (otF v g) ∧ Below w.heap.size w w')
def IpH4 (s d : Nat → Int) (p : Int) (C : Array Value) : Prop := ∃ tos id df ttl O on co, C = ip4c tos id df ttl p s d (.slice O on co)
def IpH6 (s d : Nat → Int) (p : Int) (C : Array Value) : Prop := ∃ cls lab nx hops O on co, C = ip6c cls lab nx p hops s d (.slice O on co)
theorem op4_any (A : Option Addr) (n c : Nat) (f : Nat → Int) (hf : Byt f) (hn : n ≤ 140737488355328) (hcap : n ≤ c) (hc' : c ≤ 9223372036854775807) (w : World) (hr : Rd w w.heap.size A n f) :
    Calls Try.prog 17 #[.slice A n c] w (IpR ip4z IpH4 false f n w) := by
  refine (read4_any A n c f hf hn hcap hc' w hr).mono ?_
  rintro e w' (⟨h, rfl, hb⟩ | ⟨h, O, co, P, cp, rfl, ho, hp, _, hb⟩)
  · exact .inl ⟨h, rfl, hb⟩
  · exact .inr ⟨h, _, P, cp, ⟨_, _, _, _, _, _, _, rfl⟩, rfl, hp, hb⟩
theorem op6_any (A : Option Addr) (n c : Nat) (f : Nat → Int) (hf : Byt f) (hn : n ≤ 140737488355328) (hcap : n ≤ c) (hc' : c ≤ 9223372036854775807) (w : World) (hr : Rd w w.heap.size A n f) :
    Calls Try.prog 16 #[.slice A n c] w (IpR ip6z IpH6 true f n w) := by
  refine (read6_any A n c f hf hn hcap hc' w hr).mono ?_
  rintro e w' (⟨h, rfl, hb⟩ | ⟨h, p, m, O, co, P, cp, hch, rfl, ho, hp, _, hb⟩)
  · exact .inl ⟨h, rfl, hb⟩
  · have e1 : (chn6 f).1 = p := by rw [hch]
    have e2 : otA true f = 40 + m := by show 40 + (chn6 f).2.1 = _; rw [hch]
    have e3 : otR true f = ln6 f - m := by unfold otR; rw [e2]; show 40 + ln6 f - (40 + m) = _; omega
    refine .inr ⟨h, ip6c (cls6 f) (lab6 f) (f 6) (otP true f) (f 7) (otS true f) (otD true f) (.slice O m co), P, cp, ⟨cls6 f, lab6 f, f 6, f 7, O, m, co, rfl⟩, ?_, ?_, hb⟩
    · rw [e3]
      have e4 : otP true f = p := e1
      rw [e4]
      rfl
    · rw [e3]
      refine hp.same fun k _ => ?_
      show f (otA true f + k) = _
      rw [e2, Nat.add_assoc]
/-- What open tells. -/
def OpO (v : Bool) (g : Nat → Int) (n : Nat) (w : World) (e : Ending) (w' : World) : Prop :=
  (otE v g n ≠ 0 ∧ e = .returned (.tuple #[.agg outsz, .int .i64 (otE v g n)]) ∧ Below w.heap.size w w') ∨
  (otE v g n = 0 ∧ ∃ I ic, e = .returned (.tuple #[.agg (outs (otS v g) (otD v g) (otP v g) (.slice I (otR v g) ic)), .int .i64 0]) ∧ Own w' w.heap.size 5 I (otR v g) ic (otF v g) ∧ Below w.heap.size w w')
set_option maxHeartbeats 2000000 in
theorem open_false (A : Option Addr) (n c : Nat) (f : Nat → Int) (hf : Byt f) (hn : n ≤ 140737488355328) (hcap : n ≤ c) (hc' : c ≤ 9223372036854775807) (w : World) (hr : Rd w w.heap.size A n f) :
    Calls Try.prog 11 #[.bool false, .slice A n c] w (OpO false f n w) := by
  have HM1 : Hid (Mem w (w.alloc (.cells outsz 44)) [(w.heap.size, .cells outsz 44 (0, 0))]) := Lib.hid ((Mem.nil w).alloc (.cells outsz 44))
  have HC := Lib.hid (op4_any A n c f hf hn hcap hc' (w.alloc (.cells outsz 44)) (HM1.out.rd hr))
  unfold IpR at HC
  unfold OpO
  obtain ⟨E, hE0⟩ : ∃ E, E = otE false f n := ⟨_, rfl⟩
  obtain ⟨S, hS⟩ : ∃ S, S = otS false f := ⟨_, rfl⟩
  obtain ⟨D, hD⟩ : ∃ D, D = otD false f := ⟨_, rfl⟩
  obtain ⟨P, hP⟩ : ∃ P, P = otP false f := ⟨_, rfl⟩
  obtain ⟨R, hR⟩ : ∃ R, R = otR false f := ⟨_, rfl⟩
  obtain ⟨G, hG⟩ : ∃ G, G = otF false f := ⟨_, rfl⟩
  rw [← hE0, ← hS, ← hD, ← hP, ← hR, ← hG] at HC ⊢
  clear hE0 hS hD hP hR hG hf hr
  go_enter Try.func11, Try.ntmps11
  go_upto_region 1 with fail
  change Code.wp _ _ _ _ (w.alloc (.cells outsz 44))
  generalize w.alloc (.cells outsz 44) = u1 at *
  go_wp2_with fail
  go_at_call 17
  refine HC.out.mono ?_
  rintro e u2 (⟨hE, rfl, hb⟩ | ⟨hE, C, I, ic, ⟨x0, x1, x2, x4, O, on, co, rfl⟩, rfl, ho, hb⟩)
  · have HM2 := Lib.hid (HM1.out.step hb)
    clear hb HM1 HC
    have HN : Hid ((u2.alloc (.cells ip4z 61)).heap[u2.heap.size]? = some (.cells ip4z 61 (0, 0))) := heap_alloc_new u2 _
    go_upto_region 5 with (first
      | (refine wpList_store_row rfl 61 (.tmp 9) (.tmp 31) rfl u2.heap.size ip4z rfl rfl 61 ip4z HN.out (by kernel_rfl) rfl (ip4z_one) ?_))
    change Code.wp _ _ _ _ ((u2.alloc (.cells ip4z 61)).setRow u2.heap.size ip4z)
    obtain ⟨q6, hq⟩ : ∃ q6, q6 = u2.heap.size := ⟨_, rfl⟩
    have HM3 : Hid (Mem w ((u2.alloc (.cells ip4z 61)).setRow q6 ip4z) [(w.heap.size, .cells outsz 44 (0, 0)), (q6, .cells ip4z 61 (0, 0))]) := Lib.hid (HM2.out.newrow ip4z ip4z 61 q6 hq)
    rw [← hq]
    clear hq HN HM2
    generalize (u2.alloc (.cells ip4z 61)).setRow q6 ip4z = u3 at *
    have xp : u3.cell? ⟨q6, 4, none⟩ = some (.int .u8 0) := blk_cell (HM3.out.get 1 rfl) 4
    go_wp2_with (first
      | (refine wpList_load_mid rfl 22 (.tmp 34) rfl q6 5 rfl (arr16 (fun _ => 0)).toList _ (blk_range (HM3.out.get 1 rfl) (fun k hk => ip4_src k hk)) Try.underlying22 rfl (by kernel_rfl) ?_)
      | (refine wpList_load_mid rfl 22 (.tmp 36) rfl q6 21 rfl (arr16 (fun _ => 0)).toList _ (blk_range (HM3.out.get 1 rfl) (fun k hk => ip4_dst k hk)) Try.underlying22 rfl (by kernel_rfl) ?_)
      | (refine wpList_os rfl (.tmp 35) (.tmp 37) (.tmp 39) (.tmp 40) rfl (fun _ => 0) (fun _ => 0) 0 none 0 0 rfl rfl rfl rfl ?_)
      | (refine wpList_store_row rfl 44 (.tmp 4) (.tmp 41) rfl w.heap.size (outs (fun _ => 0) (fun _ => 0) 0 (.slice none 0 0)) rfl rfl 44 outsz (HM3.out.get 0 rfl) (by kernel_rfl) rfl (outs_one ..) ?_))
    refine bodyPost_ret (v := .tuple #[.agg (outs (fun _ => 0) (fun _ => 0) 0 (.slice none 0 0)), .int .i64 E]) (results_row1 Try.results11 _ _ w.heap.size 44 (outs (fun _ => 0) (fun _ => 0) 0 (.slice none 0 0)) (0, 0) _ rfl (setRow_heap _ w.heap.size _ (outs (fun _ => 0) (fun _ => 0) 0 (.slice none 0 0)) _ _ (HM3.out.get 0 rfl)) Try.underlying44 rfl (by kernel_rfl)) rfl ?_
    exact .inl ⟨hE, rfl, below_setRow HM3.out.below (Nat.le_refl _) _⟩
  · have HM2 := Lib.hid (HM1.out.step hb)
    have HO2 := Lib.hid (ho.le HM1.out.below.size)
    clear hb HM1 HC ho
    have HN : Hid ((u2.alloc (.cells ip4z 61)).heap[u2.heap.size]? = some (.cells ip4z 61 (0, 0))) := heap_alloc_new u2 _
    go_upto_region 5 with (first
      | (refine wpList_store_row rfl 61 (.tmp 9) (.tmp 31) rfl u2.heap.size (ip4c x0 x1 x2 x4 P S D (.slice O on co)) rfl rfl 61 ip4z HN.out (by kernel_rfl) rfl (ip4_one ..) ?_))
    change Code.wp _ _ _ _ ((u2.alloc (.cells ip4z 61)).setRow u2.heap.size (ip4c x0 x1 x2 x4 P S D (.slice O on co)))
    obtain ⟨q6, hq⟩ : ∃ q6, q6 = u2.heap.size := ⟨_, rfl⟩
    have HM3 : Hid (Mem w ((u2.alloc (.cells ip4z 61)).setRow q6 (ip4c x0 x1 x2 x4 P S D (.slice O on co))) [(w.heap.size, .cells outsz 44 (0, 0)), (q6, .cells (ip4c x0 x1 x2 x4 P S D (.slice O on co)) 61 (0, 0))]) := Lib.hid (HM2.out.newrow ip4z (ip4c x0 x1 x2 x4 P S D (.slice O on co)) 61 q6 hq)
    have HO3 : Hid (Own ((u2.alloc (.cells ip4z 61)).setRow q6 (ip4c x0 x1 x2 x4 P S D (.slice O on co))) w.heap.size 5 I R ic G) := Lib.hid (HO2.out.below (by rw [hq]; exact below_setRow (below_alloc u2 _) (Nat.le_refl _) _))
    rw [← hq]
    clear hq HN HM2
    generalize (u2.alloc (.cells ip4z 61)).setRow q6 (ip4c x0 x1 x2 x4 P S D (.slice O on co)) = u3 at *
    have xp : u3.cell? ⟨q6, 4, none⟩ = some (.int .u8 P) := blk_cell (HM3.out.get 1 rfl) 4
    go_wp2_with (first
      | (refine wpList_load_mid rfl 22 (.tmp 34) rfl q6 5 rfl (arr16 S).toList _ (blk_range (HM3.out.get 1 rfl) (fun k hk => ip4_src k hk)) Try.underlying22 rfl (by kernel_rfl) ?_)
      | (refine wpList_load_mid rfl 22 (.tmp 36) rfl q6 21 rfl (arr16 D).toList _ (blk_range (HM3.out.get 1 rfl) (fun k hk => ip4_dst k hk)) Try.underlying22 rfl (by kernel_rfl) ?_)
      | (refine wpList_os rfl (.tmp 35) (.tmp 37) (.tmp 39) (.tmp 40) rfl S D P I R ic rfl rfl rfl rfl ?_)
      | (refine wpList_store_row rfl 44 (.tmp 4) (.tmp 41) rfl w.heap.size (outs S D P (.slice I R ic)) rfl rfl 44 outsz (HM3.out.get 0 rfl) (by kernel_rfl) rfl (outs_one ..) ?_))
    refine bodyPost_ret (v := .tuple #[.agg (outs S D P (.slice I R ic)), .int .i64 0]) (results_row1 Try.results11 _ _ w.heap.size 44 (outs S D P (.slice I R ic)) (0, 0) _ rfl (setRow_heap _ w.heap.size _ (outs S D P (.slice I R ic)) _ _ (HM3.out.get 0 rfl)) Try.underlying44 rfl (by kernel_rfl)) rfl ?_
    exact .inr ⟨hE, I, ic, rfl, HO3.out.other (HM3.out.get 0 rfl) (by decide) (fun j hj => setRow_other _ w.heap.size j _ hj), below_setRow HM3.out.below (Nat.le_refl _) _⟩
set_option maxHeartbeats 2000000 in
theorem open_true (A : Option Addr) (n c : Nat) (f : Nat → Int) (hf : Byt f) (hn : n ≤ 140737488355328) (hcap : n ≤ c) (hc' : c ≤ 9223372036854775807) (w : World) (hr : Rd w w.heap.size A n f) :
    Calls Try.prog 11 #[.bool true, .slice A n c] w (OpO true f n w) := by
  have HM1 : Hid (Mem w (w.alloc (.cells outsz 44)) [(w.heap.size, .cells outsz 44 (0, 0))]) := Lib.hid ((Mem.nil w).alloc (.cells outsz 44))
  have HC := Lib.hid (op6_any A n c f hf hn hcap hc' (w.alloc (.cells outsz 44)) (HM1.out.rd hr))
  unfold IpR at HC
  unfold OpO
  obtain ⟨E, hE0⟩ : ∃ E, E = otE true f n := ⟨_, rfl⟩
  obtain ⟨S, hS⟩ : ∃ S, S = otS true f := ⟨_, rfl⟩
  obtain ⟨D, hD⟩ : ∃ D, D = otD true f := ⟨_, rfl⟩
  obtain ⟨P, hP⟩ : ∃ P, P = otP true f := ⟨_, rfl⟩
  obtain ⟨R, hR⟩ : ∃ R, R = otR true f := ⟨_, rfl⟩
  obtain ⟨G, hG⟩ : ∃ G, G = otF true f := ⟨_, rfl⟩
  rw [← hE0, ← hS, ← hD, ← hP, ← hR, ← hG] at HC ⊢
  clear hE0 hS hD hP hR hG hf hr
  go_enter Try.func11, Try.ntmps11
  go_upto_region 1 with fail
  change Code.wp _ _ _ _ (w.alloc (.cells outsz 44))
  generalize w.alloc (.cells outsz 44) = u1 at *
  go_wp2_with fail
  go_at_call 16
  refine HC.out.mono ?_
  rintro e u2 (⟨hE, rfl, hb⟩ | ⟨hE, C, I, ic, ⟨x0, x1, x2, x4, O, on, co, rfl⟩, rfl, ho, hb⟩)
  · have HM2 := Lib.hid (HM1.out.step hb)
    clear hb HM1 HC
    have HN : Hid ((u2.alloc (.cells ip6z 57)).heap[u2.heap.size]? = some (.cells ip6z 57 (0, 0))) := heap_alloc_new u2 _
    go_upto_region 3 with (first
      | (refine wpList_store_row rfl 57 (.tmp 6) (.tmp 16) rfl u2.heap.size ip6z rfl rfl 57 ip6z HN.out (by kernel_rfl) rfl (ip6z_one) ?_))
    change Code.wp _ _ _ _ ((u2.alloc (.cells ip6z 57)).setRow u2.heap.size ip6z)
    obtain ⟨q6, hq⟩ : ∃ q6, q6 = u2.heap.size := ⟨_, rfl⟩
    have HM3 : Hid (Mem w ((u2.alloc (.cells ip6z 57)).setRow q6 ip6z) [(w.heap.size, .cells outsz 44 (0, 0)), (q6, .cells ip6z 57 (0, 0))]) := Lib.hid (HM2.out.newrow ip6z ip6z 57 q6 hq)
    rw [← hq]
    clear hq HN HM2
    generalize (u2.alloc (.cells ip6z 57)).setRow q6 ip6z = u3 at *
    have xp : u3.cell? ⟨q6, 3, none⟩ = some (.int .u8 0) := blk_cell (HM3.out.get 1 rfl) 3
    go_wp2_with (first
      | (refine wpList_load_mid rfl 22 (.tmp 19) rfl q6 5 rfl (arr16 (fun _ => 0)).toList _ (blk_range (HM3.out.get 1 rfl) (fun k hk => ip6_src k hk)) Try.underlying22 rfl (by kernel_rfl) ?_)
      | (refine wpList_load_mid rfl 22 (.tmp 21) rfl q6 21 rfl (arr16 (fun _ => 0)).toList _ (blk_range (HM3.out.get 1 rfl) (fun k hk => ip6_dst k hk)) Try.underlying22 rfl (by kernel_rfl) ?_)
      | (refine wpList_os rfl (.tmp 20) (.tmp 22) (.tmp 24) (.tmp 25) rfl (fun _ => 0) (fun _ => 0) 0 none 0 0 rfl rfl rfl rfl ?_)
      | (refine wpList_store_row rfl 44 (.tmp 4) (.tmp 26) rfl w.heap.size (outs (fun _ => 0) (fun _ => 0) 0 (.slice none 0 0)) rfl rfl 44 outsz (HM3.out.get 0 rfl) (by kernel_rfl) rfl (outs_one ..) ?_))
    refine bodyPost_ret (v := .tuple #[.agg (outs (fun _ => 0) (fun _ => 0) 0 (.slice none 0 0)), .int .i64 E]) (results_row1 Try.results11 _ _ w.heap.size 44 (outs (fun _ => 0) (fun _ => 0) 0 (.slice none 0 0)) (0, 0) _ rfl (setRow_heap _ w.heap.size _ (outs (fun _ => 0) (fun _ => 0) 0 (.slice none 0 0)) _ _ (HM3.out.get 0 rfl)) Try.underlying44 rfl (by kernel_rfl)) rfl ?_
    exact .inl ⟨hE, rfl, below_setRow HM3.out.below (Nat.le_refl _) _⟩
  · have HM2 := Lib.hid (HM1.out.step hb)
    have HO2 := Lib.hid (ho.le HM1.out.below.size)
    clear hb HM1 HC ho
    have HN : Hid ((u2.alloc (.cells ip6z 57)).heap[u2.heap.size]? = some (.cells ip6z 57 (0, 0))) := heap_alloc_new u2 _
    go_upto_region 3 with (first
      | (refine wpList_store_row rfl 57 (.tmp 6) (.tmp 16) rfl u2.heap.size (ip6c x0 x1 x2 P x4 S D (.slice O on co)) rfl rfl 57 ip6z HN.out (by kernel_rfl) rfl (ip6_one ..) ?_))
    change Code.wp _ _ _ _ ((u2.alloc (.cells ip6z 57)).setRow u2.heap.size (ip6c x0 x1 x2 P x4 S D (.slice O on co)))
    obtain ⟨q6, hq⟩ : ∃ q6, q6 = u2.heap.size := ⟨_, rfl⟩
    have HM3 : Hid (Mem w ((u2.alloc (.cells ip6z 57)).setRow q6 (ip6c x0 x1 x2 P x4 S D (.slice O on co))) [(w.heap.size, .cells outsz 44 (0, 0)), (q6, .cells (ip6c x0 x1 x2 P x4 S D (.slice O on co)) 57 (0, 0))]) := Lib.hid (HM2.out.newrow ip6z (ip6c x0 x1 x2 P x4 S D (.slice O on co)) 57 q6 hq)
    have HO3 : Hid (Own ((u2.alloc (.cells ip6z 57)).setRow q6 (ip6c x0 x1 x2 P x4 S D (.slice O on co))) w.heap.size 5 I R ic G) := Lib.hid (HO2.out.below (by rw [hq]; exact below_setRow (below_alloc u2 _) (Nat.le_refl _) _))
    rw [← hq]
    clear hq HN HM2
    generalize (u2.alloc (.cells ip6z 57)).setRow q6 (ip6c x0 x1 x2 P x4 S D (.slice O on co)) = u3 at *
    have xp : u3.cell? ⟨q6, 3, none⟩ = some (.int .u8 P) := blk_cell (HM3.out.get 1 rfl) 3
    go_wp2_with (first
      | (refine wpList_load_mid rfl 22 (.tmp 19) rfl q6 5 rfl (arr16 S).toList _ (blk_range (HM3.out.get 1 rfl) (fun k hk => ip6_src k hk)) Try.underlying22 rfl (by kernel_rfl) ?_)
      | (refine wpList_load_mid rfl 22 (.tmp 21) rfl q6 21 rfl (arr16 D).toList _ (blk_range (HM3.out.get 1 rfl) (fun k hk => ip6_dst k hk)) Try.underlying22 rfl (by kernel_rfl) ?_)
      | (refine wpList_os rfl (.tmp 20) (.tmp 22) (.tmp 24) (.tmp 25) rfl S D P I R ic rfl rfl rfl rfl ?_)
      | (refine wpList_store_row rfl 44 (.tmp 4) (.tmp 26) rfl w.heap.size (outs S D P (.slice I R ic)) rfl rfl 44 outsz (HM3.out.get 0 rfl) (by kernel_rfl) rfl (outs_one ..) ?_))
    refine bodyPost_ret (v := .tuple #[.agg (outs S D P (.slice I R ic)), .int .i64 0]) (results_row1 Try.results11 _ _ w.heap.size 44 (outs S D P (.slice I R ic)) (0, 0) _ rfl (setRow_heap _ w.heap.size _ (outs S D P (.slice I R ic)) _ _ (HM3.out.get 0 rfl)) Try.underlying44 rfl (by kernel_rfl)) rfl ?_
    exact .inr ⟨hE, I, ic, rfl, HO3.out.other (HM3.out.get 0 rfl) (by decide) (fun j hj => setRow_other _ w.heap.size j _ hj), below_setRow HM3.out.below (Nat.le_refl _) _⟩
theorem open_any (v : Bool) (A : Option Addr) (n c : Nat) (f : Nat → Int) (hf : Byt f) (hn : n ≤ 140737488355328) (hcap : n ≤ c) (hc' : c ≤ 9223372036854775807) (w : World) (hr : Rd w w.heap.size A n f) :
    Calls Try.prog 11 #[.bool v, .slice A n c] w (OpO v f n w) := by
  cases v
  · exact open_false A n c f hf hn hcap hc' w hr
  · exact open_true A n c f hf hn hcap hc' w hr
end Go.Proofs.Ythjgecdnlpdcdaa
