/-
  The document's own answer of chapter 3 (a device over strings): how it lies in memory ('RefAt'), what its methods compute.
-/
import Derived.Test.YtfjcbcpfhjaeeaaDevSteps
namespace Go.Proofs.Ytfjcbcpfhjaeeaa.RefD
open Go.ChangeShapes Go.WideShapes Go.ChangeAt Go.RowKit
open Go.Proofs.Ytfjcbcpfhjaeeaa.SumM Go.Proofs.Ytfjcbcpfhjaeeaa.Mem Go.Proofs.Ytfjcbcpfhjaeeaa.Blk Go.Proofs.Ytfjcbcpfhjaeeaa.PageM Go.Proofs.Ytfjcbcpfhjaeeaa.Str Go.Proofs.Ytfjcbcpfhjaeeaa.Dev Go.Proofs.Ytfjcbcpfhjaeeaa.LibC Go.Proofs.Ytfjcbcpfhjaeeaa.DevC Go.Proofs.Ytfjcbcpfhjaeeaa.DevM Go.Proofs.Ytfjcbcpfhjaeeaa.DevY Go.Proofs.Ytfjcbcpfhjaeeaa.DevK Go.Proofs.Ytfjcbcpfhjaeeaa.DevX Go.Proofs.Ytfjcbcpfhjaeeaa.DevN Go.Proofs.Ytfjcbcpfhjaeeaa.Told3 Go.Proofs.Ytfjcbcpfhjaeeaa.DevS Go.Proofs.Ytfjcbcpfhjaeeaa.Stages

/-- The blocks, and the capacities of the three rows. -/
structure Rf where
  m : Nat
  A : Nat
  T : Nat
  V : Nat
  cA : Nat
  cT : Nat
  cV : Nat
def POwn (r : Rf) (k : Nat) : Prop := k = r.m ∨ k = r.A ∨ k = r.T ∨ k = r.V
def strV (z : List Int) : Value := .string (strOfNums z)

/-- The three rows: what is safe, what was written last, what waits. -/
structure Rows3 (w : World) (r : Rf) (n bad N : Nat) (down : Bool) (s t : Nat → List Int) (v : Nat → Bool) : Prop where
  blk : Blk w r.m 47 [.slice (some ⟨r.A, 0, none⟩) N r.cA, .slice (some ⟨r.T, 0, none⟩) N r.cT, .slice (some ⟨r.V, 0, none⟩) N r.cV, .int .i64 n, .int .i64 bad, .bool down]
  safe : Row w r.A N fun p => strV (s p)
  tail : Row w r.T N fun p => strV (t p)
  wait : Row w r.V N fun p => .bool (v p)
  ne : r.m ≠ r.A ∧ r.m ≠ r.T ∧ r.m ≠ r.V ∧ r.A ≠ r.T ∧ r.A ≠ r.V ∧ r.T ≠ r.V
  size : 1 ≤ N ∧ N ≤ 48
  ok : ∀ p, p < N → (s p).length = 24 ∧ (t p).length = 24

/-- A device as the document has it: what was written last is told of one that is not down alone. -/
def RefAt (w : World) (r : Rf) (S : Dv) : Prop := ∃ t : Nat → List Int, Rows3 w r S.n S.bad S.N S.down S.dur t (fun p => (S.wr p).isSome) ∧ (S.down = false → ∀ p, p < S.N → t p = cur S p)

section
variable {w w' : World} {r : Rf} {n bad N : Nat} {down : Bool} {s t : Nat → List Int} {v : Nat → Bool} {F : Nat → Prop} {S : Dv}
theorem Rows3.kept (h : Rows3 w r n bad N down s t v) (hk : Kept F w w') (hF : ∀ k, POwn r k → ¬ F k) : Rows3 w' r n bad N down s t v :=
  ⟨h.blk.kept hk (hF _ (.inl rfl)), h.safe.kept hk (hF _ (.inr (.inl rfl))), h.tail.kept hk (hF _ (.inr (.inr (.inl rfl)))), h.wait.kept hk (hF _ (.inr (.inr (.inr rfl)))), h.ne, h.size, h.ok⟩
theorem RefAt.kept (h : RefAt w r S) (hk : Kept F w w') (hF : ∀ k, POwn r k → ¬ F k) : RefAt w' r S := by
  obtain ⟨t, h1, h2⟩ := h
  exact ⟨t, h1.kept hk hF, h2⟩
theorem RefAt.grow (h : RefAt w r S) (hk : Grow w w') : RefAt w' r S := h.kept hk (fun _ _ x => x)
theorem Rows3.grow (h : Rows3 w r n bad N down s t v) (hk : Grow w w') : Rows3 w' r n bad N down s t v := h.kept hk (fun _ _ x => x)
theorem Rows3.lt (h : Rows3 w r n bad N down s t v) : ∀ k, POwn r k → k < w.heap.size := by
  intro k hk
  have h1 := h.blk.lt
  have h2 := h.safe.lt
  have h3 := h.tail.lt
  have h4 := h.wait.lt
  rcases hk with rfl | rfl | rfl | rfl <;> omega
theorem RefAt.lt (h : RefAt w r S) : ∀ k, POwn r k → k < w.heap.size := by
  obtain ⟨t, h1, _⟩ := h
  exact h1.lt
theorem Rows3.c0 (h : Rows3 w r n bad N down s t v) : w.cell? ⟨r.m, 0, none⟩ = some (.slice (some ⟨r.A, 0, none⟩) N r.cA) := by rw [h.blk.cell]; rfl
theorem Rows3.c1 (h : Rows3 w r n bad N down s t v) : w.cell? ⟨r.m, 1, none⟩ = some (.slice (some ⟨r.T, 0, none⟩) N r.cT) := by rw [h.blk.cell]; rfl
theorem Rows3.c2 (h : Rows3 w r n bad N down s t v) : w.cell? ⟨r.m, 2, none⟩ = some (.slice (some ⟨r.V, 0, none⟩) N r.cV) := by rw [h.blk.cell]; rfl
theorem Rows3.c3 (h : Rows3 w r n bad N down s t v) : w.cell? ⟨r.m, 3, none⟩ = some (.int .i64 n) := by rw [h.blk.cell]; rfl
theorem Rows3.c4 (h : Rows3 w r n bad N down s t v) : w.cell? ⟨r.m, 4, none⟩ = some (.int .i64 bad) := by rw [h.blk.cell]; rfl
theorem Rows3.c5 (h : Rows3 w r n bad N down s t v) : w.cell? ⟨r.m, 5, none⟩ = some (.bool down) := by rw [h.blk.cell]; rfl
theorem Rows3.fr (h : Rows3 w r n bad N down s t v) (i : Nat) : w.frozen? ⟨r.m, i, none⟩ = false := h.blk.frozen i
/-- A store into a number of its own. -/
theorem Rows3.field {n' bad' : Nat} {down' : Bool} {i : Nat} {x : Value} (h : Rows3 w r n bad N down s t v)
    (hv : [.slice (some ⟨r.A, 0, none⟩) N r.cA, .slice (some ⟨r.T, 0, none⟩) N r.cT, .slice (some ⟨r.V, 0, none⟩) N r.cV, .int .i64 n', .int .i64 bad', .bool down'] = ([.slice (some ⟨r.A, 0, none⟩) N r.cA, .slice (some ⟨r.T, 0, none⟩) N r.cT, .slice (some ⟨r.V, 0, none⟩) N r.cV, .int .i64 n, .int .i64 bad, .bool down] : List Value).set i x) :
    Rows3 (w.setCell ⟨r.m, i, none⟩ x) r n' bad' N down' s t v := by
  have hk := kept_set w r.m i x
  have hne := h.ne
  refine ⟨?_, h.safe.kept hk (fun e => hne.1 e.symm), h.tail.kept hk (fun e => hne.2.1 e.symm), h.wait.kept hk (fun e => hne.2.2.1 e.symm), hne, h.size, h.ok⟩
  show Blk _ _ _ _
  rw [hv]
  exact h.blk.set i x
theorem Rows3.setA {k : Nat} {z : List Int} (h : Rows3 w r n bad N down s t v) (hz : z.length = 24) : Rows3 (w.setCell ⟨r.A, k, none⟩ (strV z)) r n bad N down (fun p => if p = k then z else s p) t v := by
  have hk := kept_set w r.A k (strV z)
  have hne := h.ne
  refine ⟨h.blk.kept hk (fun e => hne.1 e), (h.safe.set k (strV z)).congr fun i _ => ?_, h.tail.kept hk (fun e => hne.2.2.2.1 e.symm), h.wait.kept hk (fun e => hne.2.2.2.2.1 e.symm), hne, h.size, fun p hp => ⟨?_, (h.ok p hp).2⟩⟩
  · show (if i = k then strV z else strV (s i)) = strV (if i = k then z else s i)
    split <;> rfl
  · show (if p = k then z else s p).length = 24
    split
    · exact hz
    · exact (h.ok p hp).1
theorem Rows3.setT {k : Nat} {z : List Int} (h : Rows3 w r n bad N down s t v) (hz : z.length = 24) : Rows3 (w.setCell ⟨r.T, k, none⟩ (strV z)) r n bad N down s (fun p => if p = k then z else t p) v := by
  have hk := kept_set w r.T k (strV z)
  have hne := h.ne
  refine ⟨h.blk.kept hk (fun e => hne.2.1 e), h.safe.kept hk (fun e => hne.2.2.2.1 e), (h.tail.set k (strV z)).congr fun i _ => ?_, h.wait.kept hk (fun e => hne.2.2.2.2.2 e.symm), hne, h.size, fun p hp => ⟨(h.ok p hp).1, ?_⟩⟩
  · show (if i = k then strV z else strV (t i)) = strV (if i = k then z else t i)
    split <;> rfl
  · show (if p = k then z else t p).length = 24
    split
    · exact hz
    · exact (h.ok p hp).2
theorem Rows3.setV {k : Nat} {b : Bool} (h : Rows3 w r n bad N down s t v) : Rows3 (w.setCell ⟨r.V, k, none⟩ (.bool b)) r n bad N down s t (fun p => if p = k then b else v p) := by
  have hk := kept_set w r.V k (.bool b)
  have hne := h.ne
  refine ⟨h.blk.kept hk (fun e => hne.2.2.1 e), h.safe.kept hk (fun e => hne.2.2.2.2.1 e), h.tail.kept hk (fun e => hne.2.2.2.2.2 e), (h.wait.set k (.bool b)).congr fun i _ => ?_, hne, h.size, h.ok⟩
  show (if i = k then Value.bool b else .bool (v i)) = .bool (if i = k then b else v i)
  split <;> rfl
/-- The same said otherwise. -/
theorem Rows3.congr {s' t' : Nat → List Int} {v' : Nat → Bool} (h : Rows3 w r n bad N down s t v) (h1 : ∀ p, p < N → s' p = s p) (h2 : ∀ p, p < N → t' p = t p) (h3 : ∀ p, p < N → v' p = v p) : Rows3 w r n bad N down s' t' v' :=
  ⟨h.blk, h.safe.congr fun i hi => by show strV _ = strV _; rw [h1 i hi], h.tail.congr fun i hi => by show strV _ = strV _; rw [h2 i hi], h.wait.congr fun i hi => by show Value.bool _ = .bool _; rw [h3 i hi], h.ne, h.size, fun p hp => by rw [h1 p hp, h2 p hp]; exact h.ok p hp⟩

/-- A value, and the device behind the call. -/
def RefPost (r : Rf) (w : World) (x : Value) (S' : Dv) (e : Ending) (w' : World) : Prop := e = .returned x ∧ RefAt w' r S' ∧ Kept (POwn r) w w'

theorem racc_hit (h : RefAt w r S) (hd : S.down = false) (hn : (S.n : Int) < 9223372036854775807) (hb : S.bad = 1) :
    Calls Try.prog 33 #[.pointer (some ⟨r.m, 0, none⟩)] w (RefPost r w (.bool false) (accS S)) := by
  obtain ⟨t, h3, h4⟩ := h
  have c3 := h3.c3
  have c4 := h3.c4
  have f3 := h3.fr 3
  have f4 := h3.fr 4
  rw [hb] at c4
  simp only [Int.cast_ofNat_Int] at c4
  have H1 := Lib.hid (h3.field (n' := S.n + 1) (bad' := S.bad) (down' := S.down) (i := 3) (x := .int .i64 ((S.n + 1 : Nat) : Int)) rfl)
  have H2 := Lib.hid (H1.out.field (n' := S.n + 1) (bad' := 0) (down' := S.down) (i := 4) (x := .int .i64 ((0 : Nat) : Int)) rfl)
  have HK : Hid (Kept (POwn r) w ((w.setCell ⟨r.m, 3, none⟩ (.int .i64 ((S.n + 1 : Nat) : Int))).setCell ⟨r.m, 4, none⟩ (.int .i64 ((0 : Nat) : Int)))) := ((kept_set _ _ _ _).mono fun _ _ e => .inl e).trans ((kept_set _ _ _ _).mono fun _ _ e => .inl e)
  have E1 : Hid (((S.n + 1 : Nat) : Int) = (S.n : Int) + 1) := by show _ = _; omega
  rw [E1.out] at H2 HK
  simp only [Int.natCast_zero] at H2 HK
  have HS : Hid (RefAt ((w.setCell ⟨r.m, 3, none⟩ (.int .i64 ((S.n : Int) + 1))).setCell ⟨r.m, 4, none⟩ (.int .i64 0)) r (accS S)) := by
    obtain ⟨a1, a2, a3⟩ := accS_up hd
    refine ⟨t, ?_, fun _ p hp => ?_⟩
    · rw [a1, a2, a3, accS_N, accS_dur, accS_wr, hb]
      have := H2.out
      rw [hd] at this
      exact this
    · rw [cur_acc]; rw [accS_N] at hp; exact h4 hd p hp
  clear h3 h4 H1 H2 hb hd
  go_enter Try.func33, Try.ntmps33
  go_wp2
  go_ret
  exact ⟨rfl, HS.out, HK.out⟩

theorem racc_miss (h : RefAt w r S) (hd : S.down = false) (hn : (S.n : Int) < 9223372036854775807) (hbb : (S.bad : Int) < 9223372036854775807) (hb : S.bad ≠ 1) :
    Calls Try.prog 33 #[.pointer (some ⟨r.m, 0, none⟩)] w (RefPost r w (.bool true) (accS S)) := by
  obtain ⟨t, h3, h4⟩ := h
  have c3 := h3.c3
  have c4 := h3.c4
  have f3 := h3.fr 3
  have f4 := h3.fr 4
  have H1 := Lib.hid (h3.field (n' := S.n + 1) (bad' := S.bad) (down' := S.down) (i := 3) (x := .int .i64 ((S.n + 1 : Nat) : Int)) rfl)
  have H2 := Lib.hid (H1.out.field (n' := S.n + 1) (bad' := S.bad - 1) (down' := S.down) (i := 4) (x := .int .i64 ((S.bad - 1 : Nat) : Int)) rfl)
  have HK1 : Hid (Kept (POwn r) w (w.setCell ⟨r.m, 3, none⟩ (.int .i64 ((S.n + 1 : Nat) : Int)))) := (kept_set _ _ _ _).mono fun _ _ e => .inl e
  have HK : Hid (Kept (POwn r) w ((w.setCell ⟨r.m, 3, none⟩ (.int .i64 ((S.n + 1 : Nat) : Int))).setCell ⟨r.m, 4, none⟩ (.int .i64 ((S.bad - 1 : Nat) : Int)))) := HK1.out.trans ((kept_set _ _ _ _).mono fun _ _ e => .inl e)
  have E1 : Hid (((S.n + 1 : Nat) : Int) = (S.n : Int) + 1) := by show _ = _; omega
  have HA : Hid (∀ wx, Rows3 wx r (S.n + 1) (S.bad - 1) S.N S.down S.dur t (fun p => (S.wr p).isSome) → RefAt wx r (accS S)) := by
    intro wx hx
    obtain ⟨a1, a2, a3⟩ := accS_up hd
    refine ⟨t, ?_, fun _ p hp => ?_⟩
    · rw [a1, a2, a3, accS_N, accS_dur, accS_wr]
      rw [hd] at hx
      exact hx
    · rw [cur_acc]; rw [accS_N] at hp; exact h4 hd p hp
  by_cases h0 : S.bad = 0
  · have HS := Lib.hid (HA.out _ (by rw [h0]; have := H1.out; rw [h0] at this; exact this))
    rw [h0] at c4
    simp only [Int.natCast_zero] at c4
    rw [E1.out] at HS HK1
    clear h3 h4 H1 H2 hb hd h0 HA HK
    go_enter Try.func33, Try.ntmps33
    go_wp2
    go_ret
    exact ⟨rfl, HS.out, HK1.out⟩
  · have HS := Lib.hid (HA.out _ H2.out)
    have E2 : Hid (((S.bad - 1 : Nat) : Int) = (S.bad : Int) - 1) := by show _ = _; omega
    have hp0 : 0 < S.bad := by omega
    have hp1 : 1 < S.bad := by omega
    have hz2 : (1 : Int) < (S.bad : Int) := by omega
    have hz0 : (0 : Int) < (S.bad : Int) := by omega
    rw [E1.out, E2.out] at HS HK
    clear h3 h4 H1 H2 hb hd h0 HA HK1 hp0 hp1 E2
    generalize (S.bad : Int) = bz at *
    go_enter Try.func33, Try.ntmps33
    go_wp2
    go_ret
    exact ⟨rfl, HS.out, HK.out⟩

theorem rfail_any (h : RefAt w r S) (m : Int) :
    Calls Try.prog 19 #[.pointer (some ⟨r.m, 0, none⟩), .int .i64 m] w (RefPost r w (.bool (failB m)) (failS S m)) := by
  have H := Lib.hid h
  obtain ⟨t, h3, h4⟩ := h
  have c4 := h3.c4
  have f4 := h3.fr 4
  have HB : Hid (failB m = (decide (0 ≤ m) && decide (m ≤ 1000000))) := rfl
  have HS : Hid (failS S m = if failB m then { S with bad := m.toNat } else S) := rfl
  by_cases h0 : 0 ≤ m
  · by_cases h1 : m ≤ 1000000
    · have H1 := Lib.hid (h3.field (n' := S.n) (bad' := m.toNat) (down' := S.down) (i := 4) (x := .int .i64 ((m.toNat : Nat) : Int)) rfl)
      have HR : Hid (RefAt (w.setCell ⟨r.m, 4, none⟩ (.int .i64 ((m.toNat : Nat) : Int))) r { S with bad := m.toNat }) := ⟨t, H1.out, h4⟩
      rw [Int.toNat_of_nonneg h0] at HR
      have HB' : Hid (failB m = true) := by show _ = _; rw [HB.out]; simp [h0, h1]
      have HK : Hid (Kept (POwn r) w (w.setCell ⟨r.m, 4, none⟩ (.int .i64 m))) := (kept_set _ _ _ _).mono fun _ _ e => .inl e
      clear h3 h4 H1
      go_enter Try.func19, Try.ntmps19
      go_wp2
      go_ret
      exact ⟨by rw [HB'.out]; rfl, by rw [HS.out, HB'.out]; exact HR.out, HK.out⟩
    · have h1' : 1000000 < m := by omega
      have HB' : Hid (failB m = false) := by show _ = _; rw [HB.out]; simp [h1]
      clear h3 h4
      go_enter Try.func19, Try.ntmps19
      go_wp2
      go_ret
      exact ⟨by rw [HB'.out]; rfl, by rw [HS.out, HB'.out]; exact H.out, Kept.refl _ _⟩
  · have h0' : m < 0 := by omega
    have HB' : Hid (failB m = false) := by show _ = _; rw [HB.out]; simp [h0]
    clear h3 h4
    go_enter Try.func19, Try.ntmps19
    go_wp2
    go_ret
    exact ⟨by rw [HB'.out]; rfl, by rw [HS.out, HB'.out]; exact H.out, Kept.refl _ _⟩
end
end Go.Proofs.Ytfjcbcpfhjaeeaa.RefD
