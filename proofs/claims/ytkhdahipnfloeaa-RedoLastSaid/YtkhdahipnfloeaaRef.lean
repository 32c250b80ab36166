/- triadref2's disk: what it is in memory, and the contracts of its small methods. -/
import Derived.Test.YtkhdahipnfloeaaSt3
namespace Go.Proofs.Ytkhdahipnfloeaa
open Go.RowKit
set_option maxRecDepth 100000

theorem Try.infoSl : (Try.prog.info? 41).map (fun i => (i.zero, i.size, i.bytes)) = some (some (.slice none 0 0), 1, 24) := by kernel_rfl
theorem Try.infoCh : (Try.prog.info? 82).map (fun i => (i.zero, i.size, i.bytes)) = some (some (.agg #[.int .i64 0, .slice none 0 0]), 2, 32) := by kernel_rfl

/-- A sector of the reference's: 512 bytes in a block of R. -/
def Con (w : World) (R : Nat → Prop) (v : Value) (l : List UInt8) : Prop := Bs w v l ∧ l.length = 512 ∧ ∃ g, v.ownBlock = some g ∧ R g
def rcells (l : List (Nat × ByteArray)) (vs : List Value) : List Value := (l.zip vs).flatMap fun p => [.int .i64 (p.1.1 : Int), p.2]

/-- The blocks that the reference writes to. -/
def Ctl (x : Nat) (sS sL : Value) (k : Nat) : Prop := k = x ∨ sS.ownBlock = some k ∨ sL.ownBlock = some k

structure RkAt (w : World) (Q : Nat → Prop) (x : Nat) (sS sL : Value) (vS vL : List Value) (s : Dsk) : Prop where
  q : ∀ k, Ctl x sS sL k → Q k
  n1 : sS.ownBlock ≠ some x
  n2 : sL.ownBlock ≠ some x
  n3 : ∀ k, sS.ownBlock = some k → sL.ownBlock ≠ some k
  top : Blk w x #[sS, sL, .int .i64 (s.stop : Int), .bool s.dead, .int .i64 (s.ops : Int)] 70
  lenS : vS.length = s.kept.length
  lenL : vL.length = s.since.length
  rowS : w.ownsRow 0 41 1 sS s.kept.length vS
  rowL : w.ownsRow 0 82 2 sL s.since.length (rcells s.since vL)
  conS : ∀ i (h : i < s.kept.length), Con w (fun g => Q g ∧ ¬ Ctl x sS sL g) (vS[i]'(by rw [lenS]; exact h)) (pad s.kept[i])
  conL : ∀ i (h : i < s.since.length), Con w (fun g => Q g ∧ ¬ Ctl x sS sL g) (vL[i]'(by rw [lenL]; exact h)) (pad s.since[i].2)
  most : s.kept.length ≤ 3000
  ats : ∀ p ∈ s.since, p.1 < s.kept.length
  short : (∀ x ∈ s.kept, x.size ≤ 512) ∧ ∀ p ∈ s.since, p.2.size ≤ 512

def Rk (w : World) (Q : Nat → Prop) (x : Nat) (s : Dsk) : Prop := ∃ sS sL vS vL, RkAt w Q x sS sL vS vL s

theorem Con.moved {w w' : World} {R P : Nat → Prop} {v : Value} {l : List UInt8} (h : Con w R v l) (hm : Moved P w w') (hR : ∀ g, R g → ¬ P g) : Con w' R v l := by
  obtain ⟨h1, h2, g, h3, h4⟩ := h
  exact ⟨h1.moved hm (fun k hk => by rw [h3] at hk; cases hk; exact hR g h4), h2, g, h3, h4⟩
theorem Con.mono {w : World} {R R' : Nat → Prop} {v : Value} {l : List UInt8} (h : Con w R v l) (hR : ∀ g, g < w.heap.size → R g → R' g) : Con w R' v l := by
  obtain ⟨h1, h2, g, h3, h4⟩ := h
  refine ⟨h1, h2, g, h3, hR g ?_ h4⟩
  obtain ⟨b, o, c, e, -, -, hc⟩ := h1.at (by omega)
  rw [e] at h3
  simp [Value.ownBlock] at h3
  subst h3
  exact World.block_lt_of_cell? _ _ (hc 0 (by omega))

theorem RkAt.lts {w : World} {Q : Nat → Prop} {x : Nat} {sS sL : Value} {vS vL : List Value} {s : Dsk} (h : RkAt w Q x sS sL vS vL s) : ∀ k, Ctl x sS sL k → k < w.heap.size := by
  rintro k (rfl | hk | hk)
  · exact h.top.lt
  · exact (h.rowS.lt k hk).2
  · exact (h.rowL.lt k hk).2

theorem Rk.moved {w w' : World} {Q P : Nat → Prop} {x : Nat} {s : Dsk} (h : Rk w Q x s) (hm : Moved P w w') (hQP : ∀ k, Q k → ¬ P k) : Rk w' Q x s := by
  obtain ⟨sS, sL, vS, vL, h⟩ := h
  exact ⟨sS, sL, vS, vL, h.q, h.n1, h.n2, h.n3, h.top.moved hm (hQP _ (h.q _ (.inl rfl))), h.lenS, h.lenL, owns_moved h.rowS hm (fun k hk => hQP _ (h.q _ (.inr (.inl hk)))), owns_moved h.rowL hm (fun k hk => hQP _ (h.q _ (.inr (.inr hk)))),
    fun i hi => (h.conS i hi).moved hm (fun g hg => hQP g hg.1), fun i hi => (h.conL i hi).moved hm (fun g hg => hQP g hg.1), h.most, h.ats, h.short⟩
theorem Rk.shrink {w : World} {Q : Nat → Prop} {x : Nat} {s : Dsk} (h : Rk w Q x s) : Rk w (fun k => Q k ∧ k < w.heap.size) x s := by
  obtain ⟨sS, sL, vS, vL, h⟩ := h
  exact ⟨sS, sL, vS, vL, fun k hk => ⟨h.q k hk, h.lts k hk⟩, h.n1, h.n2, h.n3, h.top, h.lenS, h.lenL, h.rowS, h.rowL,
    fun i hi => (h.conS i hi).mono (fun g hg hr => ⟨⟨hr.1, hg⟩, hr.2⟩), fun i hi => (h.conL i hi).mono (fun g hg hr => ⟨⟨hr.1, hg⟩, hr.2⟩), h.most, h.ats, h.short⟩
theorem Rk.drew {w : World} {Q : Nat → Prop} {x : Nat} {s : Dsk} (h : Rk w Q x s) : Rk w.drew Q x s := h.moved (P := fun _ => False) (Moved.refl _ _).drew (fun _ _ hq => hq)

/-- Only its own block has been written: its two slices are what they were. -/
theorem RkAt.retop {w w' : World} {Q : Nat → Prop} {x : Nat} {sS sL : Value} {vS vL : List Value} {s s' : Dsk} (h : RkAt w Q x sS sL vS vL s) (hm : Moved (· = x) w w') (e1 : s'.kept = s.kept) (e2 : s'.since = s.since)
    (ht : Blk w' x #[sS, sL, .int .i64 (s'.stop : Int), .bool s'.dead, .int .i64 (s'.ops : Int)] 70) : RkAt w' Q x sS sL vS vL s' := by
  obtain ⟨now', kept', since', ops', stop', dead'⟩ := s'
  simp only at e1 e2
  subst e1 e2
  exact ⟨h.q, h.n1, h.n2, h.n3, ht, h.lenS, h.lenL, owns_moved h.rowS hm (fun k hk e => h.n1 (by rw [hk, e])), owns_moved h.rowL hm (fun k hk e => h.n2 (by rw [hk, e])),
    fun i hi => (h.conS i hi).moved hm (fun g hg e => hg.2 (.inl e)), fun i hi => (h.conL i hi).moved hm (fun g hg e => hg.2 (.inl e)), h.most, h.ats, h.short⟩

theorem RkAt.cells {w : World} {Q : Nat → Prop} {x : Nat} {sS sL : Value} {vS vL : List Value} {s : Dsk} (h : RkAt w Q x sS sL vS vL s) :
    w.cell? ⟨x, 0, none⟩ = some sS ∧ w.cell? ⟨x, 1, none⟩ = some sL ∧ w.cell? ⟨x, 2, none⟩ = some (.int .i64 (s.stop : Int)) ∧ w.cell? ⟨x, 3, none⟩ = some (.bool s.dead) ∧ w.cell? ⟨x, 4, none⟩ = some (.int .i64 (s.ops : Int)) ∧ ∀ j, w.frozen? ⟨x, j, none⟩ = false :=
  ⟨h.top.cell 0, h.top.cell 1, h.top.cell 2, h.top.cell 3, h.top.cell 4, fun j => h.top.frozen j⟩

/-- A slice that owns so many elements. -/
theorem owns_form {w : World} {base : Nat} {e : TypeId} {size : Nat} {v : Value} {n : Nat} {xs : List Value} (h : w.ownsRow base e size v n xs) : ∃ so cap, v = .slice so n cap ∧ n ≤ cap ∧ cap ≤ maxLen := by
  rcases h.2 with ⟨rfl, rfl⟩ | ⟨g, cap, cur, rfl, -, -, h1, h2, -⟩
  · exact ⟨none, 0, rfl, Nat.le_refl _, by simp [maxLen]⟩
  · exact ⟨_, cap, rfl, h1, h2⟩

theorem rsize_any (Q : Nat → Prop) (x : Nat) (s : Dsk) (w : World) (h : Rk w Q x s) :
    Calls Try.prog 45 #[.pointer (some ⟨x, 0, none⟩)] w fun e w' => e = .returned (.int .i64 (s.kept.length : Int)) ∧ w' = w := by
  obtain ⟨sS, sL, vS, vL, h⟩ := h
  obtain ⟨c0, -⟩ := h.cells
  obtain ⟨so, cap, rfl, -⟩ := owns_form h.rowS
  clear h
  go_enter Try.func45, Try.ntmps45
  go_wp2
  go_ret
  exact ⟨rfl, rfl⟩

theorem rstop_any (Q : Nat → Prop) (x : Nat) (s : Dsk) (n : Int) (w : World) (h : Rk w Q x s) :
    Calls Try.prog 17 #[.pointer (some ⟨x, 0, none⟩), .int .i64 n] w fun e w' => e = .returned (.tuple #[]) ∧ Rk w' Q x { s with stop := n.toNat } ∧ Moved Q w w' := by
  obtain ⟨sS, sL, vS, vL, h⟩ := h
  obtain ⟨-, -, c2, -, -, cf⟩ := h.cells
  have f2 := cf 2
  clear cf
  have key : ∀ y : Int, y = (n.toNat : Int) → RkAt (w.setCell ⟨x, 2, none⟩ (.int .i64 y)) Q x sS sL vS vL { s with stop := n.toNat } ∧ Moved Q w (w.setCell ⟨x, 2, none⟩ (.int .i64 y)) := by
    rintro y rfl
    have hm : Moved (· = x) w (w.setCell ⟨x, 2, none⟩ (.int .i64 (n.toNat : Int))) := (Moved.refl (· = x) w).setCell ⟨x, 2, none⟩ _ (.inl rfl)
    exact ⟨h.retop hm rfl rfl (Blk.set h.top 2 _), hm.mono (by rintro j rfl; exact h.q _ (.inl rfl))⟩
  by_cases h0 : 0 ≤ n
  · have HS := Lib.hid (key n (by omega))
    clear h key
    go_enter Try.func17, Try.ntmps17
    go_wp2
    go_end0
    exact ⟨rfl, ⟨_, _, _, _, HS.out.1⟩, HS.out.2⟩
  · have HS := Lib.hid (key 0 (by omega))
    clear h key
    go_enter Try.func17, Try.ntmps17
    go_wp2
    go_end0
    exact ⟨rfl, ⟨_, _, _, _, HS.out.1⟩, HS.out.2⟩

theorem op_any (Q : Nat → Prop) (x : Nat) (s : Dsk) (w : World) (h : Rk w Q x s) (hd : s.dead = false) (ho : s.ops ≤ 4611686018427387904) (hst : s.stop ≤ 9223372036854775807) :
    Calls Try.prog 51 #[.pointer (some ⟨x, 0, none⟩)] w fun e w' => e = .returned (.bool s.step.dead) ∧ Rk w' Q x s.step ∧ Moved Q w w' := by
  obtain ⟨sS, sL, vS, vL, h⟩ := h
  obtain ⟨-, -, c2, c3, c4, cf⟩ := h.cells
  have f2 := cf 2
  have f3 := cf 3
  have f4 := cf 4
  clear cf
  by_cases h0 : s.stop = 0
  · have e1 : s.step.dead = false := by show (s.stop == 1) = false; rw [h0]; rfl
    have hm : Moved (· = x) w (w.setCell ⟨x, 4, none⟩ (.int .i64 ((s.ops : Int) + 1))) := (Moved.refl (· = x) w).setCell ⟨x, 4, none⟩ _ (.inl rfl)
    have HS := Lib.hid (h.retop (s' := s.step) hm rfl rfl (by
      have := Blk.set h.top 4 (.int .i64 ((s.ops : Int) + 1))
      have e : (#[sS, sL, .int .i64 (s.step.stop : Int), .bool s.step.dead, .int .i64 (s.step.ops : Int)] : Array Value) = #[sS, sL, .int .i64 (s.stop : Int), .bool s.dead, .int .i64 ((s.ops : Int) + 1)] := by
        rw [e1, hd, show s.step.stop = s.stop from by show s.stop - 1 = s.stop; omega]; rfl
      rw [e]
      exact this))
    have HM := Lib.hid (hm.mono (P' := Q) (by rintro j rfl; exact h.q _ (.inl rfl)))
    rw [h0] at c2
    rw [hd] at c3
    rw [e1]
    clear h h0 hst hm e1 hd
    go_enter Try.func51, Try.ntmps51
    go_wp2
    go_ret
    exact ⟨rfl, ⟨_, _, _, _, HS.out⟩, HM.out⟩
  · have h0' : (0 : Int) < s.stop := by omega
    have key : ∀ d : Bool, d = (s.stop == 1) → RkAt (((w.setCell ⟨x, 4, none⟩ (.int .i64 ((s.ops : Int) + 1))).setCell ⟨x, 2, none⟩ (.int .i64 ((s.stop : Int) - 1))).setCell ⟨x, 3, none⟩ (.bool d)) Q x sS sL vS vL s.step ∧
        Moved Q w (((w.setCell ⟨x, 4, none⟩ (.int .i64 ((s.ops : Int) + 1))).setCell ⟨x, 2, none⟩ (.int .i64 ((s.stop : Int) - 1))).setCell ⟨x, 3, none⟩ (.bool d)) := by
      rintro d rfl
      have hm : Moved (· = x) w (((w.setCell ⟨x, 4, none⟩ (.int .i64 ((s.ops : Int) + 1))).setCell ⟨x, 2, none⟩ (.int .i64 ((s.stop : Int) - 1))).setCell ⟨x, 3, none⟩ (.bool (s.stop == 1))) :=
        (((Moved.refl (· = x) w).setCell ⟨x, 4, none⟩ _ (.inl rfl)).setCell ⟨x, 2, none⟩ _ (.inl rfl)).setCell ⟨x, 3, none⟩ _ (.inl rfl)
      refine ⟨h.retop (s' := s.step) hm rfl rfl ?_, hm.mono (by rintro j rfl; exact h.q _ (.inl rfl))⟩
      have := ((Blk.set h.top 4 (.int .i64 ((s.ops : Int) + 1))).set 2 (.int .i64 ((s.stop : Int) - 1))).set 3 (.bool (s.stop == 1))
      have e : (#[sS, sL, .int .i64 (s.step.stop : Int), .bool s.step.dead, .int .i64 (s.step.ops : Int)] : Array Value) = #[sS, sL, .int .i64 ((s.stop : Int) - 1), .bool (s.stop == 1), .int .i64 ((s.ops : Int) + 1)] := by
        rw [show (s.step.stop : Int) = (s.stop : Int) - 1 from by show ((s.stop - 1 : Nat) : Int) = _; omega]; rfl
      rw [e]
      exact this
    by_cases h1 : s.stop = 1
    · have e1 : s.step.dead = true := by show (s.stop == 1) = true; rw [h1]; rfl
      have HS := Lib.hid (key true (by rw [h1]; rfl))
      rw [h1] at c2 HS
      rw [hd] at c3
      rw [e1]
      clear h h0 h0' h1 hst e1 hd key
      go_enter Try.func51, Try.ntmps51
      go_wp2
      go_ret
      exact ⟨rfl, ⟨_, _, _, _, HS.out.1⟩, HS.out.2⟩
    · have e1 : s.step.dead = false := by show (s.stop == 1) = false; simpa using h1
      have HS := Lib.hid (key false (by simpa using h1))
      have h1' : (((s.stop : Int) - 1) == 0) = false := by simpa using (by omega : (s.stop : Int) - 1 ≠ 0)
      rw [hd] at c3
      rw [e1]
      clear h h0 h1 e1 hd key
      go_enter Try.func51, Try.ntmps51
      go_wp2
      go_ret
      exact ⟨rfl, ⟨_, _, _, _, HS.out.1⟩, HS.out.2⟩
end Go.Proofs.Ytkhdahipnfloeaa
