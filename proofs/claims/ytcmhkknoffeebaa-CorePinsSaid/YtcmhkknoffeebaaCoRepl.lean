/-
  Package core (chapter 11): replace, by a range over slices.Backward.
-/
import Derived.Test.YtcmhkknoffeebaaCoOps
import Derived.Test.YtcmhkknoffeebaaBack
namespace Go.Proofs.Ytcmhkknoffeebaa.CoR
open Go.ChangeShapes Go.WideShapes Go.ChangeAt Go.RowKit Go.Shelf
open Go.Proofs.Ytcmhkknoffeebaa.Mem Go.Proofs.Ytcmhkknoffeebaa.Blk Go.Proofs.Ytcmhkknoffeebaa.Cells Go.Proofs.Ytcmhkknoffeebaa.Orow Go.Proofs.Ytcmhkknoffeebaa.ArM Go.Proofs.Ytcmhkknoffeebaa.ArC Go.Proofs.Ytcmhkknoffeebaa.ArD Go.Proofs.Ytcmhkknoffeebaa.ArR Go.Proofs.Ytcmhkknoffeebaa.ArT Go.Proofs.Ytcmhkknoffeebaa.ArB Go.Proofs.Ytcmhkknoffeebaa.ArN Go.Proofs.Ytcmhkknoffeebaa.ListM Go.Proofs.Ytcmhkknoffeebaa.CoM Go.Proofs.Ytcmhkknoffeebaa.CoC Go.Proofs.Ytcmhkknoffeebaa.CoO Go.Proofs.Ytcmhkknoffeebaa.RingA Go.Proofs.Ytcmhkknoffeebaa.RingT Go.Proofs.Ytcmhkknoffeebaa.Back Go.Proofs.Ytcmhkknoffeebaa.Stages

attribute [local go_sem] Oper.semAt_some

/-- The boxes of the call: its core, its page, its three results. -/
def lay5 (w : World) (d : Nat) (p : Int) : World := ((((w.alloc (.cells #[.pointer (some ⟨d, 0, none⟩)] 23)).alloc (.cells #[.int .i64 p] 3)).alloc (.cells #[.int .i64 0] 3)).alloc (.cells #[.int .i64 0] 3)).alloc (.cells #[.int .i64 0] 3)
structure Bx (W : World) (d : Nat) (p r s t : Int) (n2 n3 n4 n5 n6 : Nat) : Prop where
  b2 : Blk W n2 23 [.pointer (some ⟨d, 0, none⟩)]
  b3 : Blk W n3 3 [.int .i64 p]
  b4 : Blk W n4 3 [.int .i64 r]
  b5 : Blk W n5 3 [.int .i64 s]
  b6 : Blk W n6 3 [.int .i64 t]
/-- Where they lie: from N on, below M. -/
structure Bn (N n2 n3 n4 n5 n6 M : Nat) : Prop where
  h2 : N ≤ n2
  h3 : n2 < n3
  h4 : n3 < n4
  h5 : n4 < n5
  h6 : n5 < n6
  hM : n6 < M
theorem lay5_bx (w : World) (d : Nat) (p : Int) : Bx (lay5 w d p) d p 0 0 0 w.heap.size (w.heap.size + 1) (w.heap.size + 1 + 1) (w.heap.size + 1 + 1 + 1) (w.heap.size + 1 + 1 + 1 + 1) ∧ Bn w.heap.size w.heap.size (w.heap.size + 1) (w.heap.size + 1 + 1) (w.heap.size + 1 + 1 + 1) (w.heap.size + 1 + 1 + 1 + 1) (lay5 w d p).heap.size ∧ Grow w (lay5 w d p) := by
  have e1 : ∀ (u : World) o, (u.alloc o).heap.size = u.heap.size + 1 := fun u o => by simp
  have k1 := Blk.new w 23 [.pointer (some ⟨d, 0, none⟩)]
  have k2 := Blk.new (w.alloc (.cells #[.pointer (some ⟨d, 0, none⟩)] 23)) 3 [.int .i64 p]
  have k3 := Blk.new ((w.alloc (.cells #[.pointer (some ⟨d, 0, none⟩)] 23)).alloc (.cells #[.int .i64 p] 3)) 3 [.int .i64 0]
  have k4 := Blk.new (((w.alloc (.cells #[.pointer (some ⟨d, 0, none⟩)] 23)).alloc (.cells #[.int .i64 p] 3)).alloc (.cells #[.int .i64 0] 3)) 3 [.int .i64 0]
  have k5 := Blk.new ((((w.alloc (.cells #[.pointer (some ⟨d, 0, none⟩)] 23)).alloc (.cells #[.int .i64 p] 3)).alloc (.cells #[.int .i64 0] 3)).alloc (.cells #[.int .i64 0] 3)) 3 [.int .i64 0]
  simp only [e1] at k2 k3 k4 k5
  refine ⟨⟨(((k1.alloc _).alloc _).alloc _).alloc _, ((k2.alloc _).alloc _).alloc _, (k3.alloc _).alloc _, k4.alloc _, k5⟩, ⟨Nat.le_refl _, by omega, by omega, by omega, by omega, ?_⟩, ((((Kept.refl _ w).alloc _).alloc _).alloc _).alloc _ |>.alloc _⟩
  unfold lay5
  simp only [e1]
  omega
section
variable {W W' : World} {F : Nat → Prop} {d : Nat} {p r s t : Int} {n2 n3 n4 n5 n6 N M : Nat}
theorem Bx.kept (h : Bx W d p r s t n2 n3 n4 n5 n6) (hn : Bn N n2 n3 n4 n5 n6 M) (hk : Kept F W W') (hF : ∀ k, F k → ¬ (N ≤ k ∧ k < M)) : Bx W' d p r s t n2 n3 n4 n5 n6 := by
  have a2 := hn.h2
  have a3 := hn.h3
  have a4 := hn.h4
  have a5 := hn.h5
  have a6 := hn.h6
  have a7 := hn.hM
  exact ⟨h.b2.kept hk fun x => hF _ x ⟨by omega, by omega⟩, h.b3.kept hk fun x => hF _ x ⟨by omega, by omega⟩, h.b4.kept hk fun x => hF _ x ⟨by omega, by omega⟩, h.b5.kept hk fun x => hF _ x ⟨by omega, by omega⟩, h.b6.kept hk fun x => hF _ x ⟨by omega, by omega⟩⟩
theorem Bx.grow (h : Bx W d p r s t n2 n3 n4 n5 n6) (hk : Grow W W') : Bx W' d p r s t n2 n3 n4 n5 n6 := ⟨h.b2.grow hk, h.b3.grow hk, h.b4.grow hk, h.b5.grow hk, h.b6.grow hk⟩
/-- The results are set. -/
theorem Bx.res (h : Bx W d p r s t n2 n3 n4 n5 n6) (hn : Bn N n2 n3 n4 n5 n6 M) (r' s' t' : Int) : Bx (((W.setCell ⟨n4, 0, none⟩ (.int .i64 r')).setCell ⟨n5, 0, none⟩ (.int .i64 s')).setCell ⟨n6, 0, none⟩ (.int .i64 t')) d p r' s' t' n2 n3 n4 n5 n6 ∧ Kept (fun k => k = n4 ∨ k = n5 ∨ k = n6) W (((W.setCell ⟨n4, 0, none⟩ (.int .i64 r')).setCell ⟨n5, 0, none⟩ (.int .i64 s')).setCell ⟨n6, 0, none⟩ (.int .i64 t')) := by
  have a2 := hn.h2
  have a3 := hn.h3
  have a4 := hn.h4
  have a5 := hn.h5
  have a6 := hn.h6
  have a7 := hn.hM
  have ne : ∀ {x y : Nat}, x ≠ y → x ≠ (⟨y, 0, none⟩ : Addr).block := fun h => h
  refine ⟨⟨((h.b2.other (ne (by omega)) _).other (ne (by omega)) _).other (ne (by omega)) _, ((h.b3.other (ne (by omega)) _).other (ne (by omega)) _).other (ne (by omega)) _, ((h.b4.set 0 _).other (ne (by omega)) _).other (ne (by omega)) _, ((h.b5.other (ne (by omega)) _).set 0 _).other (ne (by omega)) _, ((h.b6.other (ne (by omega)) _).other (ne (by omega)) _).set 0 _⟩, ?_⟩
  exact (((Kept.refl _ W).setCell (p := ⟨n4, 0, none⟩) (fun _ => .inl rfl) _).setCell (p := ⟨n5, 0, none⟩) (fun _ => .inr (.inl rfl)) _).setCell (p := ⟨n6, 0, none⟩) (fun _ => .inr (.inr rfl)) _
theorem Bx.s5 (h : Bx W d p r s t n2 n3 n4 n5 n6) (hn : Bn N n2 n3 n4 n5 n6 M) (v v' : Value) : (W.setCell ⟨n4, 0, none⟩ v).cell? ⟨n5, 0, none⟩ = some (.int .i64 s) ∧ ((W.setCell ⟨n4, 0, none⟩ v).setCell ⟨n5, 0, none⟩ v').cell? ⟨n6, 0, none⟩ = some (.int .i64 t) := by
  have a2 := hn.h2
  have a3 := hn.h3
  have a4 := hn.h4
  have a5 := hn.h5
  have a6 := hn.h6
  have a7 := hn.hM
  have ne : ∀ {x y : Nat}, x ≠ y → x ≠ (⟨y, 0, none⟩ : Addr).block := fun h => h
  exact ⟨(h.b5.other (ne (by omega)) _).cell 0, ((h.b6.other (ne (by omega)) _).other (ne (by omega)) _).cell 0⟩
theorem Bx.cells (h : Bx W d p r s t n2 n3 n4 n5 n6) {k : Nat} (hk : k = n4 ∨ k = n5 ∨ k = n6) : IsCells W k := by
  rcases hk with rfl | rfl | rfl
  · exact ⟨_, _, _, h.b4⟩
  · exact ⟨_, _, _, h.b5⟩
  · exact ⟨_, _, _, h.b6⟩
end
theorem os_sl {w : World} {G : Nat → Prop} {v : Value} {t : TypeId} {s n : Nat} {f : Nat → Value} (h : OS w G v t s n f) : ∃ A c, v = .slice A n c ∧ (0 < n → ∃ g, A = some ⟨g, 0, none⟩ ∧ OR w g t s c n f ∧ G g) := by
  rcases h with ⟨e, h0⟩ | ⟨g, c, e, ho, hg⟩
  · exact ⟨none, 0, by rw [e, h0], fun h => by omega⟩
  · exact ⟨_, c, e, fun _ => ⟨g, rfl, ho, hg⟩⟩

/-! ### Who goes -/
/-- The frame at a place of the order. -/
def fv (c : Co) (x : Pl c.L.length) : Nat := c.L.getD x.1 0
theorem fv_at (c : Co) {m : Nat} (h : m < c.L.length) : fv c (plOf _ m) = c.L.getD m 0 := by
  unfold fv plOf
  dsimp only
  rw [Nat.min_eq_left (by omega)]
theorem rev_at (zs : List Nat) {j : Nat} (h : j < zs.length) : zs.reverse[j]? = some (zs.getD (zs.length - 1 - j) 0) := by
  rw [List.getElem?_reverse h, List.getD_eq_getElem?_getD, List.getElem?_eq_getElem (by omega)]
  rfl
theorem victim_stop {c : Co} {k : Nat} {ini : List (Pl c.L.length)} {last : Pl c.L.length} (hk : k ≤ c.L.length) (e : come c.L.length (plOf _) k = ini ++ [last]) (h1 : ∀ y ∈ ini, 0 < (c.a.F (fv c y)).pn) (h2 : (c.a.F (fv c last)).pn ≤ 0) : c.victim = some (fv c last) ∧ fv c last ∈ c.L := by
  cases k with
  | zero => simp [come] at e
  | succ k =>
    rw [come_succ] at e
    obtain ⟨e1, e2⟩ := List.append_inj' e rfl
    have e2 : plOf c.L.length (c.L.length - 1 - k) = last := by simpa using e2
    have e3 : fv c last = c.L.getD (c.L.length - 1 - k) 0 := by rw [← e2, fv_at c (by omega)]
    refine ⟨?_, ?_⟩
    · unfold Co.victim
      rw [List.find?_eq_some_iff_append]
      refine ⟨by unfold free; exact decide_eq_true h2, c.L.reverse.take k, c.L.reverse.drop (k + 1), ?_, fun y hy => ?_⟩
      · have hkl : k < c.L.reverse.length := by simp; omega
        have h := rev_at c.L (j := k) (by omega)
        rw [e3]
        rw [List.getElem?_eq_getElem hkl] at h
        injection h with h
        rw [← h, ← List.drop_eq_getElem_cons hkl, List.take_append_drop]
      · obtain ⟨j, hj, hy⟩ := List.getElem_of_mem hy
        have hjk : j < k := by rw [List.length_take] at hj; omega
        have h := rev_at c.L (j := j) (by omega)
        rw [List.getElem_take] at hy
        rw [List.getElem?_eq_getElem (by simp; omega), hy] at h
        injection h with h
        have := h1 (plOf _ (c.L.length - 1 - j)) (by
          rw [← e1]
          unfold come
          exact List.mem_map.2 ⟨j, List.mem_range.2 hjk, rfl⟩)
        rw [fv_at c (by omega), ← h] at this
        unfold free
        rw [decide_eq_false (by omega)]
        rfl
    · rw [e3, List.getD_eq_getElem?_getD, List.getElem?_eq_getElem (by omega)]
      exact List.getElem_mem _
theorem victim_done {c : Co} (h1 : ∀ y ∈ come c.L.length (plOf _) c.L.length, 0 < (c.a.F (fv c y)).pn) : c.victim = none := by
  unfold Co.victim
  rw [List.find?_eq_none]
  intro f hf
  rw [List.mem_reverse] at hf
  obtain ⟨j, hj, rfl⟩ := List.getElem_of_mem hf
  have := h1 (plOf _ j) (by
    unfold come
    refine List.mem_map.2 ⟨c.L.length - 1 - j, List.mem_range.2 (by omega), ?_⟩
    rw [show c.L.length - 1 - (c.L.length - 1 - j) = j by omega])
  rw [fv_at c hj, List.getD_eq_getElem?_getD, List.getElem?_eq_getElem hj] at this
  simp only [Option.getD_some] at this
  unfold free
  rw [decide_eq_false (by omega)]
  simp
theorem freed {c : Co} {f : Nat} {p : Int} (g : ArM.Good c.a) (hf : f < c.a.n) (hs : (c.a.F f).st = 1) (hp : (c.a.F f).pn ≤ 0) (hq : c.a.Q = []) (hc : c.a.can p = true) : (c.drop f).a.can p = true ∧ (c.drop f).a.Q = [f] := by
  obtain ⟨_, e⟩ := drop_eq hf hs hp
  have e' : (c.drop f).a = c.a.dropF f := e
  refine ⟨?_, by rw [e']; show c.a.Q ++ [f] = [f]; rw [hq]; rfl⟩
  have hcc := hc
  simp only [Ar.can, Bool.and_eq_true, decide_eq_true_eq] at hcc
  refine can_of hcc.1.1 hcc.1.2 (find_none fun x hx hs hpx => ?_)
  rw [e'] at hx hs hpx
  change x < c.a.n at hx
  change (TabM.upd c.a.F f fFree x).st = 1 at hs
  change (TabM.upd c.a.F f fFree x).pg = p at hpx
  by_cases ex : x = f
  · subst ex; rw [TabM.upd_same] at hs; have : (0 : Int) = 1 := hs; omega
  · rw [TabM.upd_other _ _ ex] at hs hpx
    have := find_at g hx hs hpx
    omega

/-! ### What a round leaves -/
theorem keepsFrom_of {N : Nat} {W W' : World} {F : Nat → Prop} (h : Kept F W W') (hF : ∀ k, F k → k < N) : KeepsFrom N W W' :=
  ⟨h.size, fun k o hN hk _ => (h.block k (Array.getElem?_eq_some_iff.1 hk).1 fun x => by have := hF k x; omega).trans hk⟩
theorem Parts.after {W4 W5 W : World} {G G' F : Nat → Prop} {B d da dl Dl dr N : Nat} {c c' : Co} (h4 : Parts W4 G B d da dl Dl dr c) (h5 : Parts W5 G' B d da dl Dl dr c') (hN : N = W4.heap.size) (hG : ∀ k, G' k → k < N) (hT : c'.T = c.T) (hk : Kept F W4 W5) (hd : ¬ F dr) (hF : ∀ k, F k → ¬ Chan.IsChan W4 k) (hb : Below N W5 W) : Parts W G' B d da dl Dl dr c' := by
  have kb : Kept (N ≤ ·) W5 W := ⟨hb.os, hb.tape, hb.output, hb.size, fun k hk x => hb.block k (by omega)⟩
  obtain ⟨C, hr⟩ := h4.ri
  have hr5 := hr.kept hk hd hF
  have hr6 : RingC.RingC W B dr C c.T := by
    refine ⟨hr5.blk.kept kb (fun x => by have := hr.blk.lt; omega), hr5.low, ?_, hr5.len⟩
    rcases hr.ch with x | ⟨k, e, hB, hc⟩
    · exact .inl x
    · refine .inr ⟨k, e, hB, ?_⟩
      have hl := hc.lt
      rcases hr5.ch with ⟨y, _⟩ | ⟨k', e', _, hc'⟩
      · rw [y] at e; cases e
      · rw [e] at e'
        injection e' with e'
        subst e'
        exact hc'.of_block (hb.block k (by omega))
  obtain ⟨i0, i1, i2, i3⟩ := h5.inG
  refine ⟨h5.hd.kept kb (fun x => by have := hG _ i0; omega), (h5.ar.kept kb fun k x y => by have := hG _ x.1; omega), h5.li.kept kb (fun k x y => ?_), by rw [hT]; exact ⟨C, hr6⟩, h5.nl, h5.nD, h5.nr, h5.rl, h5.rD, h5.inG, h5.tl⟩
  rcases y with rfl | rfl
  · have := hG _ i1; omega
  · have := hG _ i2; omega
/-- What a round may write. -/
def FB (W4 : World) (G : Nat → Prop) (dr n4 n5 n6 k : Nat) : Prop := KF (GR G dr) W4 k ∨ k = n4 ∨ k = n5 ∨ k = n6
/-- A round has left: what stands in its world. -/
structure EndAt (W4 W5 : World) (G : Nat → Prop) (B d da dl Dl dr : Nat) (c : Co) (p : Int) (n2 n3 n4 n5 n6 f : Nat) : Prop where
  parts : Parts W5 G B d da dl Dl dr (if (c.a.F f).di = true then c else (c.drop f).takeF p f)
  bx : Bx W5 d p (if (c.a.F f).di = true then 12 else 0) (f : Int) (c.a.F f).pg n2 n3 n4 n5 n6
  kept : Kept (FB W4 G dr n4 n5 n6) W4 W5

/-- What stands when the mark of the loop is taken off. -/
theorem behind {w W' : World} {G : Nat → Prop} {B d da dl Dl dr D M n2 n3 n4 n5 n6 : Nat} {c' : Co} {p r s t : Int} (hP : Parts W' (fun k => G k ∧ k < n2) B d da dl Dl dr c') (hbx : Bx W' d p r s t n2 n3 n4 n5 n6) (hn : Bn n2 n2 n3 n4 n5 n6 M) (hK : W'.heap[D]? = some (.deferred (some []))) (hD : M ≤ D) (hw : w.heap.size = n2) (hk : Kept (KF (GR G dr) w) w W') :
    Bx (W'.putObj D (.deferred none)) d p r s t n2 n3 n4 n5 n6 ∧ Parts (W'.putObj D (.deferred none)) G B d da dl Dl dr c' ∧ Kept (KF (GR G dr) w) w (W'.putObj D (.deferred none)) := by
  have a2 := hn.h3
  have a3 := hn.h4
  have a4 := hn.h5
  have a5 := hn.h6
  have a6 := hn.hM
  have kD : Kept (· = D) W' (W'.putObj D (.deferred none)) := (Kept.refl _ W').grown (grownBy_putObj' W' D _) fun k e _ => by cases e; rfl
  refine ⟨hbx.kept hn kD fun k e x => by omega, (hP.keptX kD (fun k x _ e => by have := x.2; omega) fun k e x => ?_).mono fun k _ x => x.1, hk.then kD fun k hk e => by omega⟩
  subst e
  obtain ⟨_, _, _, _, _, _, e⟩ := x
  rw [hK] at e
  cases e
section
variable {w w' : World} {G H F : Nat → Prop} {B d da dl Dl dr : Nat} {c : Co}
set_option maxRecDepth 100000 in
set_option maxHeartbeats 4000000 in
theorem repl_parts (h : Parts w G B d da dl Dl dr c) (p : Int) (hu : ∀ f ∈ c.L, f < c.a.n ∧ (c.a.F f).st = 1) (hq : c.a.Q = []) (hc : c.a.can p = true) :
    Calls Try.prog 28 #[.pointer (some ⟨d, 0, none⟩), .int .i64 p] w (PPost G B d da dl Dl dr w (.tuple #[.int .i64 c.replC.e, .int .i64 c.replC.f, .int .i64 c.replC.v]) (c.repl p)) := by
  have c0 := h.c0
  have c1 := h.c1
  have CF : Hid (∀ wx, Grow w wx → Calls Try.prog 9 #[.pointer (some ⟨da, 0, none⟩)] wx (FramesPost c.a wx)) := fun wx hg => frames_any (h.grow hg).ar
  have CA : Hid (∀ wx, Grow w wx → Calls Try.prog 32 #[.pointer (some ⟨dl, 0, none⟩)] wx fun e w' => ∃ A cp, e = .returned (.slice A c.L.length cp) ∧ Sl w' w'.heap.size .i64 A c.L.length (ints c.L) ∧ (∀ x, A = some x → wx.heap.size ≤ x.block) ∧ Grow wx w') := fun wx hg => ListD.all_any (h.grow hg).li
  refine (callsIn_wide (n := 6)).1 ?_
  refine callsIn_of_wp_marks Try.func28 rfl trivial (wpIn_wide.2 ?_) rfl
  simp only [Try.ntmps28, List.size_toArray, List.length_cons, List.length_nil, Nat.reduceAdd, Nat.reduceSub, Array.replicate_succ, Array.replicate_zero, List.push_toArray, List.append_toArray, List.nil_append, List.cons_append]
  go_wp2
  change Code.wp _ _ _ _ (lay5 w d p)
  obtain ⟨hbx, hbn, hg0⟩ := lay5_bx w d p
  generalize lay5 w d p = W0 at hbx hbn hg0 ⊢
  generalize w.heap.size + 1 + 1 + 1 + 1 = n6 at hbx hbn ⊢
  generalize w.heap.size + 1 + 1 + 1 = n5 at hbx hbn ⊢
  generalize w.heap.size + 1 + 1 = n4 at hbx hbn ⊢
  generalize w.heap.size + 1 = n3 at hbx hbn ⊢
  obtain ⟨n2, hn2⟩ : ∃ n2, w.heap.size = n2 := ⟨_, rfl⟩
  rw [hn2] at hbx hbn ⊢
  have HB0 := Lib.hid hbx
  have HN0 := Lib.hid hbn
  have HG0 := Lib.hid hg0
  have HN2 := Lib.hid hn2
  clear hbx hbn hg0 hn2
  have k2 := HB0.out.b2.cell 0
  simp only [List.getElem?_cons_zero] at k2
  have c0' := HG0.out.cellN c0 id
  have HCF := Lib.hid (CF.out _ HG0.out)
  clear c0 CF
  have c1' := HG0.out.cellN c1 id
  clear c1
  go_step3
  go_wp2_with (go_at_call 9; (with_reducible refine HCF.out.mono ?_); rintro e W1 ⟨v, rfl, hos, hg⟩; obtain ⟨A7, c7, rfl, ho⟩ := os_sl hos; have HOR := Lib.hid ho; have HG1 := Lib.hid hg; clear hos hg ho)
  have HB7 := Lib.hid (Blk.new W1 30 [.slice A7 c.a.n c7])
  have HG1' : Hid (Grow W1 (W1.alloc (.cells #[.slice A7 c.a.n c7] 30))) := (Kept.refl _ _).alloc _
  have HL7 : Hid (W1.heap.size < (W1.alloc (.cells #[.slice A7 c.a.n c7] 30)).heap.size) := by show _ < _; simp
  obtain ⟨n7, hn7⟩ : ∃ n7, W1.heap.size = n7 := ⟨_, rfl⟩
  rw [hn7] at HB7 HL7 ⊢
  have HN7 := Lib.hid hn7
  clear hn7
  generalize W1.alloc (.cells #[.slice A7 c.a.n c7] 30) = W2 at HB7 HG1' HL7 ⊢
  have HG2 : Hid (Grow W0 W2) := HG1.out.trans HG1'.out
  have HOR2 : Hid (0 < c.a.n → ∃ g, A7 = some ⟨g, 0, none⟩ ∧ OR W2 g 36 5 c7 c.a.n (fcell c.a.F) ∧ W0.heap.size ≤ g) := fun h => by
    obtain ⟨g, e, ho, hg⟩ := HOR.out h
    exact ⟨g, e, ho.grow HG1'.out, hg⟩
  have HB2 := Lib.hid (HB0.out.grow HG2.out)
  clear HOR HB0 k2 c0' HCF
  have k2 := HB2.out.b2.cell 0
  simp only [List.getElem?_cons_zero] at k2
  have c1 := HG2.out.cellN c1' id
  clear c1'
  have HCA := Lib.hid (CA.out _ (HG0.out.trans HG2.out))
  clear CA
  go_step3
  go_wp2_with (first
    | (go_at_call 32; (with_reducible refine HCA.out.mono ?_); rintro e W3 ⟨A, cp, rfl, hs, hn, hg⟩; have HSL := Lib.hid hs; have HAN := Lib.hid hn; have HG3 := Lib.hid hg; clear hs hn hg)
    | (go_at_call 39; (with_reducible refine (back_in _ _ _ _).mono ?_); rintro e W4 ⟨rfl, rfl⟩))
  obtain ⟨n8, hn8⟩ : ∃ n8, W3.heap.size = n8 := ⟨_, rfl⟩
  have HB8 := Lib.hid (Blk.new W3 40 [.slice A c.L.length cp])
  have HG3' : Hid (Grow W3 (W3.alloc (.cells #[.slice A c.L.length cp] 40))) := (Kept.refl _ _).alloc _
  have HL8 : Hid (n8 + 1 = (W3.alloc (.cells #[.slice A c.L.length cp] 40)).heap.size) := by show _ = _; rw [← hn8]; simp
  rw [hn8] at HB8 ⊢
  generalize W3.alloc (.cells #[.slice A c.L.length cp] 40) = W4 at HB8 HG3' HL8 ⊢
  have HG4 : Hid (Grow W2 W4) := HG3.out.trans HG3'.out
  have HGW : Hid (Grow w W4) := (HG0.out.trans HG2.out).trans HG4.out
  have HB4 := Lib.hid (HB2.out.grow HG4.out)
  have HB74 := Lib.hid (HB7.out.grow HG4.out)
  have HOR4 : Hid (0 < c.a.n → ∃ g, A7 = some ⟨g, 0, none⟩ ∧ OR W4 g 36 5 c7 c.a.n (fcell c.a.F) ∧ W0.heap.size ≤ g) := fun h => by
    obtain ⟨g, e, ho, hg⟩ := HOR2.out h
    exact ⟨g, e, ho.grow HG4.out, hg⟩
  have HSL4 : Hid (Sl W4 (n8 + 1) .i64 A c.L.length (ints c.L)) := by
    have h1 := Sl.kept HSL.out HG3'.out (Nat.le_refl _) (fun _ _ x => x)
    rw [hn8] at h1
    exact h1.more (by omega)
  have H4 : Hid (Parts W4 (fun k => G k ∧ k < n2) B d da dl Dl dr c) := (h.mono fun k hk x => ⟨x, by have := HN2.out; omega⟩).grow HGW.out
  have hlen : c.L.length ≤ 32 := h.li.ring.2.2
  have HS5 : Hid (n6 < W2.heap.size ∧ n7 < W2.heap.size ∧ W2.heap.size ≤ n8 ∧ n6 < n7) := by
    have a1 := HN0.out.hM
    have a2 := HG1.out.size
    have a3 := HN7.out
    have a4 := HL7.out
    have a5 := HG1'.out.size
    have a6 := HG3.out.size
    exact ⟨by omega, by omega, by omega, by omega⟩
  have HM6 : Hid (n4 < W4.heap.size ∧ n5 < W4.heap.size ∧ n6 < W4.heap.size) := by
    have a1 := HS5.out
    have a2 := HL8.out
    have a3 := HN0.out.h5
    have a4 := HN0.out.h6
    exact ⟨by omega, by omega, by omega⟩
  have HM6L : Hid (∀ k, k = n4 ∨ k = n5 ∨ k = n6 → n2 < k) := by
    have a1 := HN0.out.h3
    have a2 := HN0.out.h4
    have a3 := HN0.out.h5
    have a4 := HN0.out.h6
    rintro k (rfl | rfl | rfl) <;> omega
  clear k2 c1 HCA HB2 HB7 HOR2 HSL
  refine (wpIn_wide (n := 6)).1 ?_
  rw [show n8 + 1 = W4.heap.size from HL8.out] at HSL4
  refine wpIn_rangeFunc_ownG rfl (by omega) (gf := 50) (lb := #[.pointer (some ⟨n8, 0, none⟩)]) rfl trivial (enters_of Try.func50 (by kernel_rfl) rfl)
    (back_stops Fence.wide _ trivial rfl (by omega) n8 W4.heap.size c.L.length cp A (ints c.L) (by omega) W4 (by have := HL8.out; omega) (Nat.le_refl _) (by have := HB8.out.cell 0; simpa using this) HSL4.out) belowK_t (belowK_b (Nat.le_refl _)) (Below.refl _ _) (fun _ => rfl)
    (fun pre W => (∀ y ∈ pre, 0 < (c.a.F (fv c y)).pn) ∧ Below W4.heap.size W4 W)
    (fun cc pre W => (cc = .ret ∧ ∃ ini last, pre = ini ++ [last] ∧ (∀ y ∈ ini, 0 < (c.a.F (fv c y)).pn) ∧ (c.a.F (fv c last)).pn ≤ 0 ∧ ∃ W5, EndAt W4 W5 (fun k => G k ∧ k < n2) B d da dl Dl dr c p n2 n3 n4 n5 n6 (fv c last) ∧ Below W4.heap.size W5 W))
    (fun s X Y row hs hg hr => ⟨hs.1, hs.2.grown hg hs.2.size (fun k e => (hr k e).1)⟩)
    (fun cc s X Y row hs hg hr => by
      obtain ⟨h1, ini, last, h2, h3, h4, W5, h5, h6⟩ := hs
      exact ⟨h1, ini, last, h2, h3, h4, W5, h5, h6.grown hg (Nat.le_trans h5.kept.size h6.size) (fun k e => (hr k e).1)⟩)
    ⟨fun y hy => (by cases hy), Below.refl _ _⟩
    (fun x => { tmps := #[.pointer (some ⟨d, 0, none⟩), .int .i64 p, .pointer (some ⟨n2, 0, none⟩), .pointer (some ⟨n3, 0, none⟩), .pointer (some ⟨n4, 0, none⟩), .pointer (some ⟨n5, 0, none⟩), .pointer (some ⟨n6, 0, none⟩), .pointer (some ⟨n7, 0, none⟩), undef, .int .i64 ((ints c.L).getD x.1 0), undef, .pointer (some ⟨d, 0, none⟩), .pointer (some ⟨d, 0, none⟩), .pointer (some ⟨d, 0, none⟩), .pointer (some ⟨da, 0, none⟩), .slice A7 c.a.n c7, .pointer (some ⟨d, 0, none⟩), .pointer (some ⟨d, 0, none⟩), .pointer (some ⟨d, 1, none⟩), .pointer (some ⟨dl, 0, none⟩), .slice A c.L.length cp, .func (.func 50) #[] #[.pointer (some ⟨n8, 0, none⟩)], .int .i64 (x.1 : Int), .int .i64 ((ints c.L).getD x.1 0), undef, undef, undef, undef, undef, undef, undef, undef, undef, undef, undef, undef, undef, undef, undef, undef, undef, undef, undef, undef, undef, undef, undef, undef, undef, undef, undef, undef, undef, undef, undef, undef, undef, undef, undef, undef], defers := [] }) ?assign ?body ?done ?stop
  case assign =>
    intro l x W K hK
    unfold encP
    gi_wp2
    exact hK
  case body =>
    rintro l pre x W ⟨hpre, hbW⟩ hlt
    have HPRE := Lib.hid hpre
    have HGB : Hid (Grow W4 W) := Kept.of_below hbW
    have HBW := Lib.hid hbW
    rw [ints_get]
    have hfx : fv c x = c.L.getD x.1 0 := rfl
    have hmem : c.L.getD x.1 0 ∈ c.L := by
      have := x.2
      rw [List.getD_eq_getElem?_getD, List.getElem?_eq_getElem (by omega)]
      exact List.getElem_mem _
    obtain ⟨hfn, hfs⟩ := hu _ hmem
    have hgood := h.ar.good
    have hn32 := hgood.n
    obtain ⟨g, rfl, ho, hg0⟩ := HOR4.out (by omega)
    have HPW := Lib.hid (H4.out.grow HGB.out)
    have HBXW := Lib.hid (HB4.out.grow HGB.out)
    have HB7W := HB74.out.grow HGB.out
    have hoW := ho.grow HGB.out
    have k2 := HBXW.out.b2.cell 0
    have k3 := HBXW.out.b3.cell 0
    have k7 := HB7W.cell 0
    simp only [List.getElem?_cons_zero] at k2 k3 k7
    have f1 := FR.c1 hoW hfn
    have f2 := FR.c2 hoW hfn
    have f4 := FR.c4 hoW hfn
    have z4 := HBXW.out.b4.frozen 0
    have z5 := HBXW.out.b5.frozen 0
    have z6 := HBXW.out.b6.frozen 0
    have r4 := HBXW.out.b4.cell 0
    have r5 := HBXW.out.b5.cell 0
    have r6 := HBXW.out.b6.cell 0
    simp only [List.getElem?_cons_zero] at r4 r5 r6
    have hd1 : 1 ≤ 6 - 1 - 1 := by omega
    have HFX := Lib.hid hfx
    have HMEM := Lib.hid hmem
    have HHU := Lib.hid (And.intro hfn hfs)
    have HGOOD := Lib.hid hgood
    have HQQ := Lib.hid hq
    have HCC := Lib.hid hc
    have HH := Lib.hid h
    clear hpre hbW hfx hmem hgood hu hq hc h ho hoW HOR4 HB7W hfs
    generalize c.L.getD x.1 0 = f at *
    have hfz : (f : Int) < (c.a.n : Int) := by omega
    have hnz : (c.a.n : Int) ≤ 32 := by omega
    by_cases hp : 0 < (c.a.F f).pn
    · have HP := Lib.hid hp
      generalize (c.a.F f).pn = pn at f2 hp
      generalize (c.a.F f).pg = pg at f1
      generalize (c.a.F f).di = di at f4
      gi_wp2
      refine ⟨KeepsFrom.refl _ _, Below.refl _ _, fun y hy => ?_, HBW.out⟩
      rcases List.mem_append.1 hy with hy | hy
      · exact HPRE.out y hy
      · simp at hy; subst hy; rw [HFX.out]; exact HP.out
    · have HP : Hid ((c.a.F f).pn ≤ 0) := by show _ ≤ _; omega
      have hp' : (c.a.F f).pn ≤ 0 := HP.out
      cases hdi : (c.a.F f).di with
      | true =>
        have HDI := Lib.hid hdi
        rw [hdi] at f4
        have HRES := Lib.hid (HBXW.out.res HN0.out 12 (f : Int) (c.a.F f).pg)
        obtain ⟨s5, s6⟩ := HBXW.out.s5 HN0.out (.int .i64 12) (.int .i64 (f : Int))
        clear hdi hp
        generalize hpg : (c.a.F f).pg = pg at *
        have HPG := Lib.hid hpg
        clear hpg
        generalize (c.a.F f).pn = pn at f2 hp'
        gi_wp2
        refine ⟨keepsFrom_of HRES.out.2 fun k e => ?_, rfl, pre, x, rfl, HPRE.out, by rw [HFX.out]; exact HP.out, _, ⟨?_, ?_, ?_⟩, Below.refl _ _⟩
        · have := HM6.out
          rcases e with rfl | rfl | rfl
          · exact this.1
          · exact this.2.1
          · exact this.2.2
        · rw [HFX.out, if_pos HDI.out]
          refine HPW.out.keptX HRES.out.2 (fun k hk _ e => ?_) fun k e => (HBXW.out.cells e).notChan
          have := HM6L.out k e
          have := hk.2
          omega
        · rw [HFX.out, if_pos HDI.out, HPG.out]
          exact HRES.out.1
        · exact (Grow.kept HGB.out).then HRES.out.2 fun k _ e => .inr e
      | false =>
        have HDI := Lib.hid hdi
        rw [hdi] at f4
        obtain ⟨hcan, hone⟩ := freed HGOOD.out hfn HHU.out.2 HP.out HQQ.out HCC.out
        have HCAN := Lib.hid hcan
        have HONE := Lib.hid hone
        have HD0 := Lib.hid (HPW.out.arena fun E hE => drop_any hE (f : Int))
        have c0 := HPW.out.c0
        clear hdi hp hcan hone
        generalize hpg : (c.a.F f).pg = pg at *
        have HPG := Lib.hid hpg
        clear hpg
        generalize (c.a.F f).pn = pn at f2 hp'
        clear r4 r5 r6 z4 z5 z6
        gi_wp2_with (first
          | (refine ⟨trivial, ?_⟩; gi_at_call 40; refine (CallsIn.inRound l (callsIn_wide.2 HD0.out)).mono ?_; rintro e u1 ⟨rfl, hp1, hk1⟩; have H1 := Lib.hid hp1; have HK1 := Lib.hid hk1; have hbx1 := HBXW.out.kept HN0.out hk1 (fun k x y => absurd x.1.1.2 (by omega)); have HBX1 := Lib.hid hbx1; clear k2 k3; have k2 := hbx1.b2.cell 0; simp only [List.getElem?_cons_zero] at k2; have c1 := hp1.c1; have HO := Lib.hid (ListD.out_any hp1.li (f : Int)); clear hp1 hk1 hbx1)
          | (refine ⟨trivial, ?_⟩; gi_at_call 34; refine (CallsIn.inRound l (callsIn_wide.2 HO.out)).mono ?_; rintro e u2 ⟨rfl, hl, hk⟩; have hp2 := H1.out.lst hl hk; have H2 := Lib.hid hp2; have hbx2 := HBX1.out.kept HN0.out hp2.2 (fun k x y => absurd x.1.1.2 (by omega)); have HBX2 := Lib.hid hbx2; clear k2; have k2 := hbx2.b2.cell 0; have k3 := hbx2.b3.cell 0; simp only [List.getElem?_cons_zero] at k2 k3; have HT := Lib.hid (ctake_any (c := c.drop f) hp2.1 HCAN.out HONE.out); clear hp2 hbx2 hl hk)
          | (refine ⟨trivial, ?_⟩; gi_at_call 26; refine (CallsIn.inRound l (callsIn_wide.2 HT.out)).mono ?_; rintro e u3 ⟨rfl, hp3, hk3⟩; have H3 := Lib.hid hp3; have HK3 := Lib.hid hk3; have hbx3 := HBX2.out.kept HN0.out hk3 (fun k x y => absurd x.1.1.2 (by omega)); have HBX3 := Lib.hid hbx3; have r4 := hbx3.b4.cell 0; simp only [List.getElem?_cons_zero] at r4; have z4 := hbx3.b4.frozen 0; have z5 := hbx3.b5.frozen 0; have z6 := hbx3.b6.frozen 0; have hs56 := hbx3.s5 HN0.out (.int .i64 0) (.int .i64 (f : Int)); have s5 := hs56.1; have s6 := hs56.2; clear hp3 hk3 hbx3 hs56))
        have HRES := Lib.hid (HBX3.out.res HN0.out 0 (f : Int) pg)
        have HKF : Hid (Kept (KF (GR (fun k => G k ∧ k < n2) dr) W) W u3) := KF.trans (KF.trans HK1.out H2.out.2) HK3.out
        have HFB : Hid (Kept (FB W4 (fun k => G k ∧ k < n2) dr n4 n5 n6) W4 u3) := (Grow.kept HGB.out).then HKF.out fun k hk e => .inl ⟨e.1, by
          obtain ⟨cur, t, fz, e2⟩ := e.2
          exact ⟨cur, t, fz, (HGB.out.block k hk id).symm.trans e2⟩⟩
        have HFB2 := Lib.hid (HFB.out.then HRES.out.2 fun k _ e => .inr e)
        refine ⟨?_, rfl, pre, x, rfl, HPRE.out, by rw [HFX.out]; exact HP.out, _, ⟨?_, ?_, HFB2.out⟩, Below.refl _ _⟩
        · refine (keepsFrom_of HKF.out fun k e => ?_).trans (keepsFrom_of HRES.out.2 fun k e => ?_)
          · have h1 := e.1.1.2
            have h2 := HM6L.out n4 (.inl rfl)
            have h3 := HM6.out.1
            omega
          · have := HM6.out
            rcases e with rfl | rfl | rfl
            · exact this.1
            · exact this.2.1
            · exact this.2.2
        · rw [HFX.out, if_neg (by rw [HDI.out]; simp)]
          refine H3.out.keptX HRES.out.2 (fun k hk _ e => ?_) fun k e => (HBX3.out.cells e).notChan
          have := HM6L.out k e
          have := hk.2
          omega
        · rw [HFX.out, if_neg (by rw [HDI.out]; simp), HPG.out]
          exact HRES.out.1
  case done =>
    rintro D ys W hD rfl ⟨hall, hbW⟩ hK
    have HV : Hid (c.replC = ⟨8, -1, -1⟩ ∧ c.repl p = c) := by
      have hv := victim_done hall
      unfold Co.replC Co.repl
      rw [hv]
      exact ⟨rfl, rfl⟩
    have HGB : Hid (Grow W4 W) := Kept.of_below hbW
    have HPW := Lib.hid (H4.out.grow HGB.out)
    have hbx := HB4.out.grow HGB.out
    have HBXW := Lib.hid hbx
    have r4 := hbx.b4.cell 0
    simp only [List.getElem?_cons_zero] at r4
    have z4 := hbx.b4.frozen 0
    have z5 := hbx.b5.frozen 0
    have z6 := hbx.b6.frozen 0
    obtain ⟨s5, s6⟩ := hbx.s5 HN0.out (.int .i64 8) (.int .i64 (-1))
    have HRES := Lib.hid (hbx.res HN0.out 8 (-1) (-1))
    have HK := Lib.hid hK
    clear hall hbx hK hu hq hc h
    go_wp2
    rw [Exit.noGoto_ret]
    have hK' : (((W.setCell ⟨n4, 0, none⟩ (.int .i64 8)).setCell ⟨n5, 0, none⟩ (.int .i64 (-1))).setCell ⟨n6, 0, none⟩ (.int .i64 (-1))).heap[D]? = some (.deferred (some [])) := by
      refine (HRES.out.2.block D (Array.getElem?_eq_some_iff.1 HK.out).1 fun e => ?_).trans HK.out
      have := HM6.out
      rcases e with e | e | e <;> omega
    have HP2 : Hid (Parts (((W.setCell ⟨n4, 0, none⟩ (.int .i64 8)).setCell ⟨n5, 0, none⟩ (.int .i64 (-1))).setCell ⟨n6, 0, none⟩ (.int .i64 (-1))) (fun k => G k ∧ k < n2) B d da dl Dl dr c) := HPW.out.keptX HRES.out.2 (fun k hk _ e => by have := HM6L.out k e; have := hk.2; omega) fun k e => (HBXW.out.cells e).notChan
    obtain ⟨e1, e2, e3⟩ := behind HP2.out HRES.out.1 HN0.out hK' (by have a1 := HG2.out.size; have a2 := HG4.out.size; omega) HN2.out (((Grow.kept HGW.out).trans (Grow.kept HGB.out)).then HRES.out.2 fun k hk e => by have := HM6L.out k e; have := HN2.out; omega)
    refine ⟨by simp, .inl ⟨_, _, rfl, run_takeDeferred hK', ?_⟩⟩
    rw [HV.out.1, HV.out.2]
    have m4 := e1.b4.cell 0
    have m5 := e1.b5.cell 0
    have m6 := e1.b6.cell 0
    simp only [List.getElem?_cons_zero] at m4 m5 m6
    clear hK' s5 s6 HRES HP2
    generalize ((((W.setCell ⟨n4, 0, none⟩ (.int .i64 8)).setCell ⟨n5, 0, none⟩ (.int .i64 (-1))).setCell ⟨n6, 0, none⟩ (.int .i64 (-1))).putObj D (.deferred none)) = WX at *
    refine ⟨.tuple #[.int .i64 8, .int .i64 (-1), .int .i64 (-1)], ?_, rfl, e2, e3⟩
    simp [results, Try.f28, go_sem, m4, m5, m6]
  case stop =>
    rintro D cc pre W hD ⟨k, hk, rfl⟩ ⟨rfl, ini, last, e1, h1, h2, W5, hE, hb5⟩ hK
    obtain ⟨hv, hvm⟩ := victim_stop hk e1 h1 h2
    generalize fv c last = f at *
    have HV : Hid (c.replC = ⟨if (c.a.F f).di = true then 12 else 0, (f : Int), (c.a.F f).pg⟩ ∧ c.repl p = if (c.a.F f).di = true then c else (c.drop f).takeF p f) := by
      unfold Co.replC Co.repl
      rw [hv]
      dsimp only
      split
      · exact ⟨rfl, rfl⟩
      · exact ⟨rfl, rfl⟩
    have hT : (if (c.a.F f).di = true then c else (c.drop f).takeF p f).T = c.T := by
      split
      · rfl
      · rfl
    have kb : Kept (W4.heap.size ≤ ·) W5 W := ⟨hb5.os, hb5.tape, hb5.output, hb5.size, fun k hk x => hb5.block k (by omega)⟩
    have hM0 : W0.heap.size ≤ W4.heap.size := by have a1 := HG2.out.size; have a2 := HG4.out.size; omega
    have hbx := hE.bx.kept HN0.out kb fun k x y => by omega
    have hdr : ¬ FB W4 (fun k => G k ∧ k < n2) dr n4 n5 n6 dr := by
      have hi := H4.out.inG.2.2.2
      rintro (x | x)
      · exact x.1.2 rfl
      · have := HM6L.out _ x
        have := hi.2
        omega
    have hPW := Parts.after H4.out hE.parts rfl (fun k x => by have := x.2; have := HN0.out.h3; have := HM6L.out n4 (.inl rfl); have := HM6.out.1; omega) hT hE.kept hdr (fun k x => by
      rcases x with x | x
      · exact x.2.notChan
      · exact (HB4.out.cells x).notChan) hb5
    have hkW : Kept (KF (GR G dr) w) w W := by
      refine ((Grow.kept HGW.out).then (hE.kept) fun k hk e => ?_).then kb fun k hk e => ?_
      · rcases e with e | e
        · obtain ⟨⟨e0, e1⟩, cur, t, fz, e2⟩ := e
          exact ⟨⟨e0.1, e1⟩, cur, t, fz, (HGW.out.block k hk id).symm.trans e2⟩
        · have := HM6L.out k e
          have := HN2.out
          omega
      · have := HGW.out.size
        omega
    obtain ⟨e4, e5, e6⟩ := behind hPW hbx HN0.out hK (by omega) HN2.out hkW
    have m4 := e4.b4.cell 0
    have m5 := e4.b5.cell 0
    have m6 := e4.b6.cell 0
    simp only [List.getElem?_cons_zero] at m4 m5 m6
    rw [HV.out.1, HV.out.2]
    have HK := Lib.hid hK
    have HPAR := Lib.hid (And.intro e5 e6)
    clear e1 h1 h2 hE hb5 hv hvm hT kb hbx hdr hPW hkW e4 e5 e6 hu hq hc h hK
    clear HV
    generalize (if (c.a.F f).di = true then (12 : Int) else 0) = ee at *
    generalize (if (c.a.F f).di = true then c else (c.drop f).takeF p f) = cx at *
    refine (wpIn_wide (n := 6)).2 ?_
    go_wp2
    refine ⟨by simp, .inl ⟨_, _, rfl, run_takeDeferred HK.out, ?_⟩⟩
    refine ⟨.tuple #[.int .i64 ee, .int .i64 (f : Int), .int .i64 (c.a.F f).pg], ?_, rfl, HPAR.out.1, HPAR.out.2⟩
    simp [results, Try.f28, go_sem, m4, m5, m6]
end
end Go.Proofs.Ytcmhkknoffeebaa.CoR
