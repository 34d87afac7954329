/-
  The document's table (chapter 5, lavaboref4): how it lies in memory; find, Get, Put, Len, at every table whose slots are never used, were used or hold keys.
-/
import Derived.Test.YtnoofichbadkoaaTabOps
import Derived.Test.YtnoofichbadkoaaTabRPlace
namespace Go.Proofs.Ytnoofichbadkoaa.TabR
open Go.ChangeShapes Go.WideShapes Go.ChangeAt Go.RowKit
open Go.Proofs.Ytnoofichbadkoaa.Mem Go.Proofs.Ytnoofichbadkoaa.Blk Go.Proofs.Ytnoofichbadkoaa.Cells Go.Proofs.Ytnoofichbadkoaa.TabM Go.Proofs.Ytnoofichbadkoaa.TabC Go.Proofs.Ytnoofichbadkoaa.TabD Go.Proofs.Ytnoofichbadkoaa.TabO Go.Proofs.Ytnoofichbadkoaa.TabRP Go.Proofs.Ytnoofichbadkoaa.Stages

/-- No slot holds less than -2. -/
def Lo (T : Tb) : Prop := ∀ j, j < T.n → -2 ≤ T.K j
theorem lo_fresh (n : Nat) : Lo (fresh n) := fun _ _ => by show (-2 : Int) ≤ -1; omega
theorem lo_set {T : Tb} (h : Lo T) (p : Nat) {k : Int} (hk : -2 ≤ k) (v : Int) : Lo (T.set p k v) := fun j hj => by
  show -2 ≤ upd T.K p k j
  by_cases e : j = p
  · rw [e, upd_same]; exact hk
  · rw [upd_other _ _ e]; exact h j hj
theorem lo_put {T : Tb} (h : Lo T) (key v : Int) : Lo (T.put key v) := by
  unfold Tb.put
  split
  · next hc =>
    refine lo_set h _ ?_ _
    unfold Tb.putC at hc
    by_cases h0 : key < 0
    · rw [if_pos h0] at hc; omega
    · omega
  · exact h
theorem lo_out {T : Tb} (h : Lo T) (key : Int) : Lo (T.out key) := by
  unfold Tb.out
  split
  · exact h
  · split
    · exact lo_fresh _
    · exact lo_set h _ (by omega) _

/-- The document's table at block m, its slots at block D. -/
structure RefAt (w : World) (m D cap : Nat) (T : Tb) : Prop where
  hd : Row w m 1 fun _ => .slice (some ⟨D, 0, none⟩) T.n cap
  sl : Slots w D T
  ne : m ≠ D
  pos : 1 ≤ T.n
  size : T.n ≤ 1024
  capLe : T.n ≤ cap
  lo : Lo T
section
variable {w w' : World} {m D cap p : Nat} {T U : Tb} {key : Int} {F : Nat → Prop}
theorem RefAt.c0 (h : RefAt w m D cap T) : w.cell? ⟨m, 0, none⟩ = some (.slice (some ⟨D, 0, none⟩) T.n cap) := h.hd.cell (i := 0) (by omega)
theorem RefAt.f1 (h : RefAt w m D cap T) (j : Nat) : w.frozen? ⟨D, j, none⟩ = false := Row.frozen h.sl j
theorem RefAt.kept (h : RefAt w m D cap T) (hk : Kept F w w') (hF : ∀ k, F k → ¬ Own m D k) : RefAt w' m D cap T :=
  ⟨h.hd.kept hk fun x => hF _ x (.inl rfl), Row.kept h.sl hk fun x => hF _ x (.inr rfl), h.ne, h.pos, h.size, h.capLe, h.lo⟩
theorem RefAt.grow (h : RefAt w m D cap T) (hk : Grow w w') : RefAt w' m D cap T := h.kept hk fun _ x => x.elim
theorem RefAt.lt (h : RefAt w m D cap T) : m < w.heap.size ∧ D < w.heap.size := ⟨h.hd.lt, Row.lt h.sl⟩
theorem RefAt.set (h : RefAt w m D cap T) (p : Nat) {k : Int} (hk : -2 ≤ k) (v : Int) : RefAt ((w.setCell ⟨D, p * 2, none⟩ (.int .i64 k)).setCell ⟨D, p * 2 + 1, none⟩ (.int .i64 v)) m D cap (T.set p k v) :=
  ⟨(h.hd.other h.ne _).other h.ne _, h.sl.set p k v, h.ne, h.pos, h.size, h.capLe, lo_set h.lo p hk v⟩
theorem RefAt.congr (h : RefAt w m D cap T) (hn : T.n = U.n) (hk : ∀ j, j < T.n → T.K j = U.K j) (hv : ∀ j, j < T.n → T.V j = U.V j) : RefAt w m D cap U := by
  refine ⟨?_, h.sl.congr hn hk hv, h.ne, hn ▸ h.pos, hn ▸ h.size, hn ▸ h.capLe, fun j hj => by rw [← hk j (by omega)]; exact h.lo j (by omega)⟩
  rw [← hn]
  exact h.hd

/-- What find answers: the slot that has the key; if there is none, the slot that Put takes. -/
def FindPost (R : Int × Int) (w : World) (e : Ending) (w' : World) : Prop := ∃ y, e = .returned (.tuple #[.int .i64 R.1, .int .i64 y]) ∧ (R.1 = -1 → y = R.2) ∧ w = w'
set_option maxHeartbeats 1000000 in
theorem rfind_any (h : RefAt w m D cap T) (h0 : 0 ≤ key) :
    Calls Try.prog 28 #[.pointer (some ⟨m, 0, none⟩), .int .i64 key] w (FindPost (T.search key) w) := by
  have c0 := h.c0
  have hsz := h.size
  have hpos := h.pos
  have hszi : (T.n : Int) ≤ 1024 := by omega
  have hposi : 1 ≤ (T.n : Int) := by omega
  have HP := Lib.hid (fun (w : World) => rplace_good (w := w) key T.n h0 hpos hsz)
  have HPL := Lib.hid (place_lt (key := key) hpos)
  have hpl : ((place key T.n : Nat) : Int) < (T.n : Int) := by have := HPL.out; omega
  have HS : Hid (T.search key = scan T.K T.n (place key T.n) key T.n 0 (-1)) := rfl
  generalize T.search key = R at HS ⊢
  generalize place key T.n = p at *
  have H := Lib.hid h
  clear h
  go_enter Try.func28, Try.ntmps28
  go_wp2_with (go_at_call 23; (with_reducible refine (HP.out _).mono ?_); rintro e w' ⟨rfl, rfl⟩)
  clear c0
  go_loopg [6, 8] T.n (fun g f i wr => ∃ (j : Nat) (fr : Int), j + g = T.n ∧ f = .int .i64 fr ∧ i = .int .i64 (j : Int) ∧ (fr = -1 ∨ (0 ≤ fr ∧ fr < 1024)) ∧ R = scan T.K T.n p key g j fr ∧ w = wr)
  case atStart => exact ⟨0, -1, by omega, rfl, rfl, .inl rfl, HS.out, rfl⟩
  case round =>
    obtain ⟨j, fr, hg, rfl, rfl, hfr, hR, rfl⟩ := hrel
    have HG := Lib.hid hg
    have HF := Lib.hid hfr
    have HR := Lib.hid hR
    have c0 := H.out.c0
    by_cases hj : j < T.n
    · have hm := Nat.mod_lt (p + j) hpos
      have k0 := H.out.sl.k hm
      have hlo := H.out.lo _ hm
      have hji : (j : Int) < (T.n : Int) := by omega
      obtain ⟨g, rfl⟩ : ∃ g, gk = g + 1 := ⟨gk - 1, by omega⟩
      rw [scan.eq_def] at hR
      dsimp only at hR
      have HA := Lib.hid (at_int p j T.n)
      have hA0 : 0 ≤ ((p : Int) + (j : Int)) % (T.n : Int) := by rw [HA.out]; omega
      have hA1 : ((p : Int) + (j : Int)) % (T.n : Int) < (T.n : Int) := by rw [HA.out]; omega
      by_cases e1 : T.K ((p + j) % T.n) = key
      · rw [if_pos e1] at hR
        have e1' : (T.K ((p + j) % T.n) == key) = true := by rw [e1]; exact beq_self_eq_true _
        subst hR
        clear HR hg hfr e1 hlo
        go_wp2
        go_ret2
        exact ⟨fr, by rw [← HA.out]; rfl, fun x => by have x : (((p + j) % T.n : Nat) : Int) = -1 := x; omega, rfl⟩
      · rw [if_neg e1] at hR
        have e1' : (T.K ((p + j) % T.n) == key) = false := beq_eq_false_iff_ne.2 e1
        by_cases e2 : T.K ((p + j) % T.n) = -1
        · rw [if_pos e2] at hR
          have e2' : (T.K ((p + j) % T.n) == -1) = true := by rw [e2]; rfl
          have e4 : T.K ((p + j) % T.n) < 0 := by omega
          clear HR hg hfr e1 e2 hlo
          by_cases ef : fr < 0
          · rw [if_pos ef] at hR
            subst hR
            go_wp2
            go_ret2
            exact ⟨_, rfl, fun _ => HA.out, rfl⟩
          · rw [if_neg ef] at hR
            have ef' : 0 ≤ fr := by omega
            subst hR
            go_wp2
            go_ret2
            exact ⟨_, rfl, fun _ => rfl, rfl⟩
        · rw [if_neg e2] at hR
          have e2' : (T.K ((p + j) % T.n) == -1) = false := beq_eq_false_iff_ne.2 e2
          by_cases e3 : T.K ((p + j) % T.n) = -2
          · rw [if_pos e3] at hR
            have e4 : T.K ((p + j) % T.n) < 0 := by omega
            clear HR hg hfr e1 e2 e3 hlo
            by_cases ef : fr < 0
            · rw [if_pos ef] at hR
              have HR := Lib.hid hR
              clear hR
              go_wp2
              go_roundg g
              case measure => omega
              case rel => exact ⟨j + 1, _, by have := HG.out; omega, rfl, by go_num, .inr ⟨by rw [HA.out]; omega, by rw [HA.out]; omega⟩, by rw [HR.out, HA.out], rfl⟩
            · rw [if_neg ef] at hR
              have ef' : 0 ≤ fr := by omega
              have HR := Lib.hid hR
              clear hR
              go_wp2
              go_roundg g
              case measure => omega
              case rel => exact ⟨j + 1, _, by have := HG.out; omega, rfl, by go_num, HF.out, HR.out, rfl⟩
          · rw [if_neg e3] at hR
            have e4 : 0 ≤ T.K ((p + j) % T.n) := by omega
            have HR := Lib.hid hR
            clear hR hg hfr e1 e2 e3 hlo
            go_wp2
            go_roundg g
            case measure => omega
            case rel => exact ⟨j + 1, _, by have := HG.out; omega, rfl, by go_num, HF.out, HR.out, rfl⟩
    · have hji : (T.n : Int) ≤ (j : Int) := by omega
      have hg0 : gk = 0 := by omega
      subst hg0
      have hR' : R = (-1, fr) := hR
      subst hR'
      clear HR hR hfr hg
      go_wp2
      go_ret2
      exact ⟨_, rfl, fun _ => rfl, rfl⟩

theorem rget_any (h : RefAt w m D cap T) (key : Int) :
    Calls Try.prog 19 #[.pointer (some ⟨m, 0, none⟩), .int .i64 key] w fun e w' => e = .returned (.int .i64 (T.get key)) ∧ w = w' := by
  have hsz := h.size
  have hszi : (T.n : Int) ≤ 1024 := by omega
  by_cases hk : key < 0
  · have HE : Hid (T.get key = -1) := by show _ = _; unfold Tb.get Tb.find; rw [if_pos hk]; rfl
    clear h
    go_enter Try.func19, Try.ntmps19
    go_wp2
    go_ret
    exact ⟨by rw [HE.out]; rfl, rfl⟩
  have hk' : 0 ≤ key := by omega
  have HF := Lib.hid (rfind_any h hk')
  have hfd : T.find key = (T.search key).1 := if_neg hk
  rcases search_has (key := key) h.pos with e | ⟨j, hj, e, _⟩
  · have HE : Hid (T.get key = -1) := by show _ = _; unfold Tb.get; rw [hfd, e]; rfl
    have HF1 : Hid (Calls Try.prog 28 #[.pointer (some ⟨m, 0, none⟩), .int .i64 key] w fun e w' => ∃ y, e = .returned (.tuple #[.int .i64 (-1), .int .i64 y]) ∧ w = w') := HF.out.mono fun e' w' ⟨y, h1, _, h2⟩ => ⟨y, by rw [h1, e], h2⟩
    clear h e hfd HF hk
    go_enter Try.func19, Try.ntmps19
    go_wp2_with (go_at_call 28; (with_reducible refine HF1.out.mono ?_); rintro e w' ⟨y, rfl, rfl⟩)
    go_ret
    exact ⟨by rw [HE.out]; rfl, rfl⟩
  · have HE : Hid (T.get key = T.V j) := by show _ = _; unfold Tb.get; rw [hfd, e, if_neg (by simp), Int.toNat_natCast]
    have HF1 : Hid (Calls Try.prog 28 #[.pointer (some ⟨m, 0, none⟩), .int .i64 key] w fun e w' => ∃ y, e = .returned (.tuple #[.int .i64 (j : Int), .int .i64 y]) ∧ w = w') := HF.out.mono fun e' w' ⟨y, h1, _, h2⟩ => ⟨y, by rw [h1, e], h2⟩
    have c0 := h.c0
    have k1 := h.sl.v hj
    have hji : (j : Int) < (T.n : Int) := by omega
    clear h e hfd HF hk
    go_enter Try.func19, Try.ntmps19
    go_wp2_with (go_at_call 28; (with_reducible refine HF1.out.mono ?_); rintro e w' ⟨y, rfl, rfl⟩)
    go_ret
    exact ⟨by rw [HE.out]; rfl, rfl⟩

/-- A number, and the document's table behind the call. -/
def RefPost (m D cap : Nat) (w : World) (v : Int) (U : Tb) (e : Ending) (w' : World) : Prop := e = .returned (.int .i64 v) ∧ RefAt w' m D cap U ∧ Kept (Own m D) w w'
theorem rput_any (h : RefAt w m D cap T) (key v : Int) :
    Calls Try.prog 16 #[.pointer (some ⟨m, 0, none⟩), .int .i64 key, .int .i64 v] w (RefPost m D cap w (T.putC key) (T.put key v)) := by
  have hsz := h.size
  have hszi : (T.n : Int) ≤ 1024 := by omega
  by_cases h0 : key < 0
  · have HE : Hid (T.putC key = 1) := if_pos h0
    have HE2 : Hid (T.put key v = T) := by show _ = _; unfold Tb.put; rw [HE.out]; rfl
    have H := Lib.hid h
    clear h
    go_enter Try.func16, Try.ntmps16
    go_wp2
    go_ret
    rw [HE.out, HE2.out]
    exact ⟨rfl, H.out, Kept.refl _ _⟩
  have h0' : 0 ≤ key := by omega
  have HS := Lib.hid (rfind_any h h0')
  rcases search_has (key := key) h.pos with e1 | ⟨j, hj, e1, _⟩
  · rcases search_free (key := key) h.pos with e2 | ⟨j, hj, e2, hK⟩
    · have HE : Hid (T.putC key = 8) := by show _ = _; unfold Tb.putC; rw [if_neg h0, e1, if_neg (by omega), e2]; rfl
      have HE2 : Hid (T.put key v = T) := by show _ = _; unfold Tb.put; rw [HE.out]; rfl
      have HF1 : Hid (Calls Try.prog 28 #[.pointer (some ⟨m, 0, none⟩), .int .i64 key] w fun e w' => e = .returned (.tuple #[.int .i64 (-1), .int .i64 (-1)]) ∧ w = w') := HS.out.mono fun e' w' ⟨y, x1, x2, x3⟩ => ⟨by rw [x1, x2 e1, e1, e2], x3⟩
      have H := Lib.hid h
      clear h e1 e2 h0 HS
      go_enter Try.func16, Try.ntmps16
      go_wp2_with (go_at_call 28; (with_reducible refine HF1.out.mono ?_); rintro e w' ⟨rfl, rfl⟩)
      go_ret
      rw [HE.out, HE2.out]
      exact ⟨rfl, H.out, Kept.refl _ _⟩
    · have HE : Hid (T.putC key = 0) := by show _ = _; unfold Tb.putC; rw [if_neg h0, e1, if_neg (by omega), e2, if_neg (by omega)]
      have HE2 : Hid (T.put key v = T.set j key v) := by show _ = _; unfold Tb.put; rw [HE.out, e2, Int.toNat_natCast]; rfl
      have HF1 : Hid (Calls Try.prog 28 #[.pointer (some ⟨m, 0, none⟩), .int .i64 key] w fun e w' => e = .returned (.tuple #[.int .i64 (-1), .int .i64 (j : Int)]) ∧ w = w') := HS.out.mono fun e' w' ⟨y, x1, x2, x3⟩ => ⟨by rw [x1, x2 e1, e1, e2], x3⟩
      have H := Lib.hid h
      have c0 := h.c0
      have f1 := h.f1
      have k0 := h.sl.k hj
      have k1 := h.sl.v hj
      have hji : (j : Int) < (T.n : Int) := by omega
      clear h e1 e2 h0 HS
      go_enter Try.func16, Try.ntmps16
      go_wp2_with (go_at_call 28; (with_reducible refine HF1.out.mono ?_); rintro e w' ⟨rfl, rfl⟩)
      go_ret
      rw [HE.out, HE2.out]
      exact ⟨rfl, H.out.set j (by omega) v, ((Kept.refl _ w).setCell (fun _ => .inr rfl) _).setCell (fun _ => .inr rfl) _⟩
  · have HE : Hid (T.putC key = 13) := by show _ = _; unfold Tb.putC; rw [if_neg h0, e1, if_pos (by simp)]
    have HE2 : Hid (T.put key v = T) := by show _ = _; unfold Tb.put; rw [HE.out]; rfl
    have HF1 : Hid (Calls Try.prog 28 #[.pointer (some ⟨m, 0, none⟩), .int .i64 key] w fun e w' => ∃ y, e = .returned (.tuple #[.int .i64 (j : Int), .int .i64 y]) ∧ w = w') := HS.out.mono fun e' w' ⟨y, x1, _, x3⟩ => ⟨y, by rw [x1, e1], x3⟩
    have H := Lib.hid h
    clear h e1 h0 HS
    go_enter Try.func16, Try.ntmps16
    go_wp2_with (go_at_call 28; (with_reducible refine HF1.out.mono ?_); rintro e w' ⟨y, rfl, rfl⟩)
    go_ret
    rw [HE.out, HE2.out]
    exact ⟨rfl, H.out, Kept.refl _ _⟩

theorem rlen_any (h : RefAt w m D cap T) :
    Calls Try.prog 20 #[.pointer (some ⟨m, 0, none⟩)] w fun e w' => e = .returned (.int .i64 (T.cnt : Int)) ∧ w = w' := by
  have hsz := h.size
  have hszi : (T.n : Int) ≤ 1024 := by omega
  have H := Lib.hid h
  clear h
  go_enter Try.func20, Try.ntmps20
  go_wp2
  go_loopg [3, 4] T.n (fun g n i wr => ∃ j : Nat, j + g = T.n ∧ n = .int .i64 (TabM.cnt (used T) j : Int) ∧ i = .int .i64 (j : Int) ∧ w = wr)
  case atStart => exact ⟨0, by omega, rfl, rfl, rfl⟩
  case round =>
    obtain ⟨j, hg, rfl, rfl, rfl⟩ := hrel
    have HG := Lib.hid hg
    have c0 := H.out.c0
    have hcl := cnt_le (used T) j
    by_cases hj : j < T.n
    · have hji : (j : Int) < (T.n : Int) := by omega
      have k0 := H.out.sl.k hj
      have hcz : ((TabM.cnt (used T) j : Nat) : Int) ≤ 1024 := by omega
      by_cases hu : 0 ≤ T.K j
      · have HC : Hid (((TabM.cnt (used T) (j + 1) : Nat) : Int) = ((TabM.cnt (used T) j : Nat) : Int) + 1) := by
          show ((TabM.cnt (used T) j + (if used T j = true then 1 else 0) : Nat) : Int) = _
          rw [if_pos (show used T j = true from decide_eq_true hu)]; omega
        clear hcl hg
        generalize TabM.cnt (used T) j = c at *
        go_wp2
        go_roundg (gk - 1)
        case measure => have := HG.out; omega
        case rel => exact ⟨j + 1, by have := HG.out; omega, by rw [HC.out], by go_num, rfl⟩
      · have hu' : T.K j < 0 := by omega
        have HC : Hid (((TabM.cnt (used T) (j + 1) : Nat) : Int) = ((TabM.cnt (used T) j : Nat) : Int)) := by
          show ((TabM.cnt (used T) j + (if used T j = true then 1 else 0) : Nat) : Int) = _
          rw [if_neg (show ¬ used T j = true from fun x => hu (of_decide_eq_true x))]; omega
        clear hcl hg hu
        generalize TabM.cnt (used T) j = c at *
        go_wp2
        go_roundg (gk - 1)
        case measure => have := HG.out; omega
        case rel => exact ⟨j + 1, by have := HG.out; omega, by rw [HC.out], by go_num, rfl⟩
    · obtain rfl : j = T.n := by omega
      clear hj hcl hg
      go_wp2
      go_ret
      exact ⟨rfl, rfl⟩
end
#print axioms rlen_any
end Go.Proofs.Ytnoofichbadkoaa.TabR
