/- Act.Do: an act at both disks. -/
import Derived.Test.YtejjeaknpbdeaaaPair
import Derived.Deep.RegionHeld3
namespace Go.Proofs.Ytejjeaknpbdeaaa
open Go.RowKit

theorem Pr.drew {w0 w : World} {X : Nat → Prop} {r x : Nat} {s s' : Dsk} (h : Pr w0 w X r x s s') : Pr w0 w.drew X r x s s' := h.grown (Below.refl _ _).drew

/-- What an act makes of a disk. -/
def actOf (s : Dsk) (c : Nat) (i nn : Int) (bs : List UInt8) (ks : List Bool) : Dsk :=
  if c ≤ 4 then s.write i bs else if c ≤ 6 then s.sync else if c = 7 then { s with stop := (withinOf nn 8 - 1).toNat } else if c = 8 then s.crash ks else s
theorem Fit.act {s : Dsk} {n t : Nat} (h : Fit s n t) (c : Nat) (i nn : Int) (bs : List UInt8) (ks : List Bool) : Fit (actOf s c i nn bs ks) n (t + 1) := by
  have := within_range nn 8 (by decide)
  unfold actOf
  split
  · exact h.write _ _
  · split
    · exact h.sync
    · split
      · exact h.stopped _ (by omega)
      · split
        · exact h.crash _
        · exact h.next

/-- append onto a new row, as one step of a region that draws: the bytes lie in a new block. -/
theorem step_append_bytes {ops : Array Oper} {o : Oper} {a : Act} {w : World} {K : Act → World → Prop} {Q : Exit → Act → World → Prop} {E : Prop} (hgd : o.guard = none) (s x : Operand)
    (ho : o.op = .call { callee := .builtin .append, args := #[s, x], argTypes := #[30, 30] })
    (base : Nat) (v : Value) (l : List UInt8) (hs : a.eval s = v) (hown : Own w base v l) (y : Value) (m : List UInt8) (hx : a.eval x = y) (hbs : Bs w y m)
    (hl : l.length + m.length ≤ 140737488355328) (hbase : base ≤ w.heap.size)
    (h : ∀ v' w', Own w' base v' (l ++ m) → w.grownBy w' v.ownBlock → K (a.put o.dst v') w') : if Region.wanted o (yielded ops a.tmps) = true then Oper.wp Try.prog o a w K Q else E := by
  have hw : Region.wanted o (yielded ops a.tmps) = true := by simp [Region.wanted, hgd]
  rw [if_pos hw]
  obtain ⟨i0, hi, hz0, hz1, hz2⟩ := info_parts Try.infoU8
  obtain ⟨ao, cap, rfl, h1, h2, h3, h4⟩ := hbs
  cases ao with
  | none =>
    have h0 := h3 rfl
    obtain rfl : m = [] := List.eq_nil_of_length_eq_zero (by omega)
    subst h0
    have hrun := run_append_owned_none (P := Try.prog) (w := w) base 30 o.type 5 i0 1 Try.underlying30 hi v _ _ hown
    unfold Oper.wp
    simp [execOp, ho, resolve, invoke, builtin, hs, hx, hrun, Result.andThen]
    exact h _ _ (by simpa using hown) (World.grownBy.refl _ _)
  | some ad =>
    obtain ⟨v', w', hr, ho', hg, -⟩ := run_append_own (P := Try.prog) w base 30 o.type 5 i0 (.int .u8 0) 1 1 Try.underlying30 hi hz0 hz1 hz2 rfl (by decide) v _ _ hown ad m.length cap (vbs m) (by simp [vbs]) (h4 ad rfl) (vbs_oneCell m) (by simp [maxLen]; omega) (by omega) hbase
    unfold Oper.wp
    simp [execOp, ho, resolve, invoke, builtin, hs, hx, hr, Result.andThen]
    exact h v' w' (Own.of ho' (by simp) (by rw [vbs_append])) hg

theorem Try.infoBool : (Try.prog.info? 4).map (fun i => (i.zero, i.size, i.bytes)) = some (some (.bool false), 1, 1) := by kernel_rfl

theorem owns_bl {w : World} {base : Nat} {v : Value} {l : List Bool} (h : w.ownsRow base 4 1 v l.length (l.map Value.bool)) : Bl w v l := by
  have hc := fun g (hg : v.ownBlock = some g) => h.cells hg
  rcases h.2 with ⟨rfl, hn⟩ | ⟨g, cap, cur, rfl, hb, hh, h1, h2, h3, h4⟩
  · obtain rfl : l = [] := List.eq_nil_of_length_eq_zero hn
    exact Bl.nil w
  · refine ⟨some ⟨g, 0, none⟩, cap, rfl, h1, h2, (fun h => by cases h), fun ad had j u hu => ?_⟩
    cases had
    exact hc g rfl j u hu

/-- append([]bool{}, keep...) -/
theorem wpList_append_bools {w : World} {ops : Array Oper} {rest : List Oper} {o : Oper} {a : Act} {Q : Exit → Act → World → Prop} (hgd : o.guard = none) (s x : Operand)
    (ho : o.op = .call { callee := .builtin .append, args := #[s, x], argTypes := #[31, 31] })
    (base : Nat) (v : Value) (hs : a.eval s = v) (hown : w.ownsRow base 4 1 v 0 []) (y : Value) (m : List Bool) (hx : a.eval x = y) (hbs : Bl w y m) (hl : m.length ≤ 1099511627776) (hbase : base ≤ w.heap.size)
    (h : ∀ v' w', Bl w' v' m → (∀ k, v'.ownBlock = some k → base ≤ k ∧ k < w'.heap.size) → w.grownBy w' v.ownBlock → wpList Try.prog ops Q rest (a.put o.dst v') w') : wpList Try.prog ops Q (o :: rest) a w := by
  obtain ⟨i0, hi, hz0, hz1, hz2⟩ := info_parts Try.infoBool
  obtain ⟨ao, cap, rfl, h1, h2, h3, h4⟩ := hbs
  cases ao with
  | none =>
    have h0 := h3 rfl
    obtain rfl : m = [] := List.eq_nil_of_length_eq_zero (by omega)
    subst h0
    exact wpList_append_own_none hgd s x _ ho base 4 i0 1 Try.underlying31 hi v _ _ hs hown hx (h v w (owns_bl (l := []) hown) hown.lt (World.grownBy.refl _ _))
  | some ad =>
    refine wpList_append_own w hgd s x _ ho base 4 i0 (.bool false) 1 1 Try.underlying31 hi hz0 hz1 hz2 rfl (by decide) v _ _ hs hown ad m.length cap (m.map Value.bool) hx (by simp) (h4 ad rfl) ?_ (by simp [maxLen]; omega) (by omega) hbase ?_
    · intro u hu
      obtain ⟨_, _, rfl⟩ := List.mem_map.1 hu
      rfl
    · intro v' w' ho' hg _
      have ho2 : w'.ownsRow base 4 1 v' m.length (m.map Value.bool) := by simpa using ho'
      exact h v' w' (owns_bl ho2) ho2.lt hg

/-- The two disks, and the act in its box. -/
def Ax (w0 w : World) (ab : Nat) (cs : Array Value) (r x : Nat) (s s' : Dsk) : Prop := Pr w0 w (fun j => j = ab) r x s s' ∧ Blk w ab cs 33
theorem Ax.grown {w0 w w' : World} {ab : Nat} {cs : Array Value} {r x : Nat} {s s' : Dsk} (h : Ax w0 w ab cs r x s s') (hb : Below w.heap.size w w') : Ax w0 w' ab cs r x s s' :=
  ⟨h.1.grown hb, h.2.moved (Moved.of_below hb (fun _ => False)) (fun h => h)⟩
theorem Ax.of {w0 w w' : World} {ab : Nat} {cs : Array Value} {r x : Nat} {s s' t t' : Dsk} (h : Ax w0 w ab cs r x s s') (hp : Pr w0 w' (fun j => j = ab) r x t t') (hm : Moved (fun k => ¬ (k = ab)) w w') : Ax w0 w' ab cs r x t t' :=
  ⟨hp, h.2.moved hm (fun hn => hn rfl)⟩
theorem Ax.done {w0 w : World} {ab : Nat} {cs : Array Value} {r x : Nat} {s s' : Dsk} (h : Ax w0 w ab cs r x s s') : Pr w0 w (fun _ => False) r x s s' := h.1.forget (fun _ hx => hx.elim)
theorem Ax.xlt {w0 w : World} {ab : Nat} {cs : Array Value} {r x : Nat} {s s' : Dsk} (h : Ax w0 w ab cs r x s s') : ∀ k, k = ab → k < w.heap.size := by rintro k rfl; exact h.2.lt

set_option maxRecDepth 100000 in
set_option maxHeartbeats 8000000 in
theorem do_any (kd av nn : Int) (bv kv : Value) (bs : List UInt8) (ks : List Bool) (n t : Nat) (s : Dsk) (w0 w : World) (r x : Nat) (h : Pr w0 w (fun _ => False) r x s s) (hfit : Fit s n t) (ht : t ≤ 1000) (hn : 1 ≤ n) (hn3 : n ≤ 3000) (hb : Bs w0 bv bs) (hk : Bl w0 kv ks) (hbl : bs.length ≤ 600) (hkl : ks.length ≤ 100) :
    Calls Try.prog 13 #[.agg #[.int .i64 kd, .int .i64 av, .int .i64 nn, bv, kv], .pointer (some ⟨r, 0, none⟩), .pointer (some ⟨x, 0, none⟩)] w fun e w' =>
      e = .returned (.bool true) ∧ ∃ s', Pr w0 w' (fun _ => False) r x s' s' ∧ Fit s' n (t + 1) := by
  have hcr := within_range kd 10 (by decide)
  have har := within_range av (n + 2) (by omega)
  have hnr := within_range nn 8 (by decide)
  obtain ⟨c, hc, hc10⟩ : ∃ c : Nat, withinOf kd 10 = c ∧ c < 10 := ⟨(withinOf kd 10).toNat, by omega, by omega⟩
  have wk := within_any kd 10 (by decide) (by decide)
  have wa := within_any av (n + 2) (by omega) (by omega)
  have wn := within_any nn 8 (by decide) (by decide)
  rw [hc] at wk
  obtain ⟨ib, hib⟩ : ∃ ib, ib = withinOf av (n + 2) := ⟨_, rfl⟩
  rw [← hib] at wa har
  obtain ⟨nb, hnb⟩ : ∃ nb, nb = withinOf nn 8 := ⟨_, rfl⟩
  rw [← hnb] at wn hnr
  have WK := Lib.hid wk
  have WA := Lib.hid wa
  have WN := Lib.hid wn
  have hlen := hfit.len
  have hnl := hfit.nlen
  have HF := Lib.hid hfit
  have HB := Lib.hid hb
  have HK := Lib.hid hk
  have hX0 : Pr w0 (w.alloc (.cells #[.int .i64 kd, .int .i64 av, .int .i64 nn, bv, kv] 33)) (fun j => j = w.heap.size) r x s s :=
    (h.grow ((Below.refl _ w).alloc (Nat.le_refl _) _)).forget (fun j hj => .inr ⟨by omega, by simp; omega⟩)
  have hblk := Blk.new w #[.int .i64 kd, .int .i64 av, .int .i64 nn, bv, kv] 33
  have hso : s.ops ≤ 4611686018427387904 := by have := hfit.ops; omega
  have hss : s.stop ≤ 9223372036854775807 := by have := hfit.stop; omega
  have hsi : s.since.length ≤ 1073741824 := by have := hfit.since; omega
  clear wk wa wn hc hcr hib hnb hb hk
  go_enter Try.func13, Try.ntmps13
  go_wp2_with fail
  generalize (w.alloc _) = w1 at hX0 hblk ⊢
  generalize w.heap.size = ab at hX0 hblk ⊢
  clear h hfit
  have HX := Lib.hid hX0
  have HBK := Lib.hid hblk
  have c1 : w1.cell? ⟨ab, 1, none⟩ = some (.int .i64 av) := hblk.cell 1
  have hwr : IntKind.i64.wrap ((n : Int) + 2) = n + 2 := by rw [IntKind.wrap_i64]; omega
  have hwr2 : IntKind.i64.wrap (ib - 1) = ib - 1 := by rw [IntKind.wrap_i64]; omega
  clear hX0 hblk
  go_region_held3 (fun w' => w'.cell? ⟨ab, 1, none⟩ = some (.int .i64 av)) (first | assumption | exact c1)
    (first
      | (go_at_call 16; refine (px_size HX.out.drew).mono ?_; rw [hlen]; rintro e wz ⟨rfl, hwz⟩; replace hwz := hwz.symm; subst hwz)
      | (go_at_call 11; refine (WA.out _).mono ?_; rintro e wz ⟨rfl, hwz⟩; replace hwz := hwz.symm; subst hwz))
  have hA : Ax w0 w1.drew ab #[.int .i64 kd, .int .i64 av, .int .i64 nn, bv, kv] r x s s := ⟨HX.out.drew, HBK.out.drew⟩
  clear c1 HX HBK hwr hwr2 WA
  generalize w1.drew = w2 at hA ⊢
  have hia3 : -1 ≤ ib - 1 ∧ ib - 1 ≤ 4000 := by omega
  obtain ⟨hia1, hia2⟩ := hia3
  generalize ib - 1 = ia at hia1 hia2 ⊢
  clear har
  have c0 : w2.cell? ⟨ab, 0, none⟩ = some (.int .i64 kd) := hA.2.cell 0
  have c2 : w2.cell? ⟨ab, 2, none⟩ = some (.int .i64 nn) := hA.2.cell 2
  have c3 : w2.cell? ⟨ab, 3, none⟩ = some bv := hA.2.cell 3
  have c4 : w2.cell? ⟨ab, 4, none⟩ = some kv := hA.2.cell 4
  have HA := Lib.hid hA
  have hbel := hA.1.below
  have HBL := Lib.hid hbel
  have hablt := hA.2.lt
  clear hA hbel
  go_wp2_with fail
  refine (WK.out _).mono ?_
  rintro e wz ⟨rfl, hwz⟩
  replace hwz := hwz.symm
  subst hwz
  clear WK
  obtain rfl | rfl | rfl | rfl | rfl | rfl | rfl | rfl | rfl | rfl : c = 0 ∨ c = 1 ∨ c = 2 ∨ c = 3 ∨ c = 4 ∨ c = 5 ∨ c = 6 ∨ c = 7 ∨ c = 8 ∨ c = 9 := by omega
  · have HBW : Hid (Bs (w2.alloc (.cells #[] 5)).drew bv bs) := (HB.out.below ((HBL.out.alloc HBL.out.size (.cells #[] 5)).drew))
    have HOW : Hid (Own (w2.alloc (.cells #[] 5)).drew w2.heap.size (.slice (some ⟨w2.heap.size, 0, none⟩) 0 0) []) := Own.empty w2 w2.heap.size (Nat.le_refl _)
    have keyA := fun (w3 : World) (hg3 : (w2.alloc (.cells #[] 5)).drew.grownBy w3 (Value.slice (some ⟨w2.heap.size, 0, none⟩) 0 0).ownBlock) => HA.out.grown ((((Below.refl w2.heap.size w2).alloc (Nat.le_refl _) (.cells #[] 5)).drew).grown hg3 (by simp) (fun q hq => by simp [Value.ownBlock] at hq; omega))
    have KA := Lib.hid keyA
    have cA : (w2.alloc (.cells #[] 5)).cell? ⟨ab, 3, none⟩ = some bv := (HA.out.2.alloc _).cell 3
    have hlb : ([] : List UInt8).length + bs.length ≤ 140737488355328 := by simp; omega
    have hsz2 : w2.heap.size ≤ (w2.alloc (.cells #[] 5)).drew.heap.size := by simp
    have HLB := Lib.hid hlb
    have HSZ := Lib.hid hsz2
    clear keyA c0 c2 c4 hlb hsz2 HK
    go_wp2_with fail
    go_region_held3 (fun w' => w'.cell? ⟨ab, 3, none⟩ = some bv) (first | assumption | exact c3 | exact cA | exact q3 | exact q4 | exact q5)
      (first
        | (refine step_append_bytes rfl (.tmp 30) (.tmp 32) rfl w2.heap.size _ [] rfl HOW.out bv bs rfl HBW.out HLB.out HSZ.out ?_; intro v3 w3 hv3 hg3; have A3 := Lib.hid (KA.out w3 hg3); have q3 : w3.cell? ⟨ab, 3, none⟩ = some bv := A3.out.2.cell 3)
        | (go_at_call 18; refine (pd_write ia v3 bs A3.out.1 (by simpa using hv3.bs) hso hss hsi A3.out.xlt).mono ?_; rintro e w4 ⟨rfl, P4, M4⟩; have A4 := Lib.hid (A3.out.of P4 M4); have q4 : w4.cell? ⟨ab, 3, none⟩ = some bv := A4.out.2.cell 3; have B4 := Lib.hid (HB.out.below A4.out.1.below))
        | (go_at_call 24; refine (px_write ia bv bs A4.out.1 HF.out.ok B4.out hso hss hsi A4.out.xlt).mono ?_; rintro e w5 ⟨rfl, P5, M5⟩; have A5 := Lib.hid (A4.out.of P5 M5); have q5 : w5.cell? ⟨ab, 3, none⟩ = some bv := A5.out.2.cell 3))
    have HR := Lib.hid A5.out.done
    clear q3 q4 q5 hv3 hg3 P4 M4 P5 M5 A3 A4 A5 B4 KA HOW HBW cA c3
    go_wp2
    go_ret
    exact ⟨rfl, _, HR.out, HF.out.write _ _⟩
  · have HBW : Hid (Bs (w2.alloc (.cells #[] 5)).drew bv bs) := (HB.out.below ((HBL.out.alloc HBL.out.size (.cells #[] 5)).drew))
    have HOW : Hid (Own (w2.alloc (.cells #[] 5)).drew w2.heap.size (.slice (some ⟨w2.heap.size, 0, none⟩) 0 0) []) := Own.empty w2 w2.heap.size (Nat.le_refl _)
    have keyA := fun (w3 : World) (hg3 : (w2.alloc (.cells #[] 5)).drew.grownBy w3 (Value.slice (some ⟨w2.heap.size, 0, none⟩) 0 0).ownBlock) => HA.out.grown ((((Below.refl w2.heap.size w2).alloc (Nat.le_refl _) (.cells #[] 5)).drew).grown hg3 (by simp) (fun q hq => by simp [Value.ownBlock] at hq; omega))
    have KA := Lib.hid keyA
    have cA : (w2.alloc (.cells #[] 5)).cell? ⟨ab, 3, none⟩ = some bv := (HA.out.2.alloc _).cell 3
    have hlb : ([] : List UInt8).length + bs.length ≤ 140737488355328 := by simp; omega
    have hsz2 : w2.heap.size ≤ (w2.alloc (.cells #[] 5)).drew.heap.size := by simp
    have HLB := Lib.hid hlb
    have HSZ := Lib.hid hsz2
    clear keyA c0 c2 c4 hlb hsz2 HK
    go_wp2_with fail
    go_region_held3 (fun w' => w'.cell? ⟨ab, 3, none⟩ = some bv) (first | assumption | exact c3 | exact cA | exact q3 | exact q4 | exact q5)
      (first
        | (refine step_append_bytes rfl (.tmp 30) (.tmp 32) rfl w2.heap.size _ [] rfl HOW.out bv bs rfl HBW.out HLB.out HSZ.out ?_; intro v3 w3 hv3 hg3; have A3 := Lib.hid (KA.out w3 hg3); have q3 : w3.cell? ⟨ab, 3, none⟩ = some bv := A3.out.2.cell 3)
        | (go_at_call 18; refine (pd_write ia v3 bs A3.out.1 (by simpa using hv3.bs) hso hss hsi A3.out.xlt).mono ?_; rintro e w4 ⟨rfl, P4, M4⟩; have A4 := Lib.hid (A3.out.of P4 M4); have q4 : w4.cell? ⟨ab, 3, none⟩ = some bv := A4.out.2.cell 3; have B4 := Lib.hid (HB.out.below A4.out.1.below))
        | (go_at_call 24; refine (px_write ia bv bs A4.out.1 HF.out.ok B4.out hso hss hsi A4.out.xlt).mono ?_; rintro e w5 ⟨rfl, P5, M5⟩; have A5 := Lib.hid (A4.out.of P5 M5); have q5 : w5.cell? ⟨ab, 3, none⟩ = some bv := A5.out.2.cell 3))
    have HR := Lib.hid A5.out.done
    clear q3 q4 q5 hv3 hg3 P4 M4 P5 M5 A3 A4 A5 B4 KA HOW HBW cA c3
    go_wp2
    go_ret
    exact ⟨rfl, _, HR.out, HF.out.write _ _⟩
  · have HBW : Hid (Bs (w2.alloc (.cells #[] 5)).drew bv bs) := (HB.out.below ((HBL.out.alloc HBL.out.size (.cells #[] 5)).drew))
    have HOW : Hid (Own (w2.alloc (.cells #[] 5)).drew w2.heap.size (.slice (some ⟨w2.heap.size, 0, none⟩) 0 0) []) := Own.empty w2 w2.heap.size (Nat.le_refl _)
    have keyA := fun (w3 : World) (hg3 : (w2.alloc (.cells #[] 5)).drew.grownBy w3 (Value.slice (some ⟨w2.heap.size, 0, none⟩) 0 0).ownBlock) => HA.out.grown ((((Below.refl w2.heap.size w2).alloc (Nat.le_refl _) (.cells #[] 5)).drew).grown hg3 (by simp) (fun q hq => by simp [Value.ownBlock] at hq; omega))
    have KA := Lib.hid keyA
    have cA : (w2.alloc (.cells #[] 5)).cell? ⟨ab, 3, none⟩ = some bv := (HA.out.2.alloc _).cell 3
    have hlb : ([] : List UInt8).length + bs.length ≤ 140737488355328 := by simp; omega
    have hsz2 : w2.heap.size ≤ (w2.alloc (.cells #[] 5)).drew.heap.size := by simp
    have HLB := Lib.hid hlb
    have HSZ := Lib.hid hsz2
    clear keyA c0 c2 c4 hlb hsz2 HK
    go_wp2_with fail
    go_region_held3 (fun w' => w'.cell? ⟨ab, 3, none⟩ = some bv) (first | assumption | exact c3 | exact cA | exact q3 | exact q4 | exact q5)
      (first
        | (refine step_append_bytes rfl (.tmp 30) (.tmp 32) rfl w2.heap.size _ [] rfl HOW.out bv bs rfl HBW.out HLB.out HSZ.out ?_; intro v3 w3 hv3 hg3; have A3 := Lib.hid (KA.out w3 hg3); have q3 : w3.cell? ⟨ab, 3, none⟩ = some bv := A3.out.2.cell 3)
        | (go_at_call 18; refine (pd_write ia v3 bs A3.out.1 (by simpa using hv3.bs) hso hss hsi A3.out.xlt).mono ?_; rintro e w4 ⟨rfl, P4, M4⟩; have A4 := Lib.hid (A3.out.of P4 M4); have q4 : w4.cell? ⟨ab, 3, none⟩ = some bv := A4.out.2.cell 3; have B4 := Lib.hid (HB.out.below A4.out.1.below))
        | (go_at_call 24; refine (px_write ia bv bs A4.out.1 HF.out.ok B4.out hso hss hsi A4.out.xlt).mono ?_; rintro e w5 ⟨rfl, P5, M5⟩; have A5 := Lib.hid (A4.out.of P5 M5); have q5 : w5.cell? ⟨ab, 3, none⟩ = some bv := A5.out.2.cell 3))
    have HR := Lib.hid A5.out.done
    clear q3 q4 q5 hv3 hg3 P4 M4 P5 M5 A3 A4 A5 B4 KA HOW HBW cA c3
    go_wp2
    go_ret
    exact ⟨rfl, _, HR.out, HF.out.write _ _⟩
  · have HBW : Hid (Bs (w2.alloc (.cells #[] 5)).drew bv bs) := (HB.out.below ((HBL.out.alloc HBL.out.size (.cells #[] 5)).drew))
    have HOW : Hid (Own (w2.alloc (.cells #[] 5)).drew w2.heap.size (.slice (some ⟨w2.heap.size, 0, none⟩) 0 0) []) := Own.empty w2 w2.heap.size (Nat.le_refl _)
    have keyA := fun (w3 : World) (hg3 : (w2.alloc (.cells #[] 5)).drew.grownBy w3 (Value.slice (some ⟨w2.heap.size, 0, none⟩) 0 0).ownBlock) => HA.out.grown ((((Below.refl w2.heap.size w2).alloc (Nat.le_refl _) (.cells #[] 5)).drew).grown hg3 (by simp) (fun q hq => by simp [Value.ownBlock] at hq; omega))
    have KA := Lib.hid keyA
    have cA : (w2.alloc (.cells #[] 5)).cell? ⟨ab, 3, none⟩ = some bv := (HA.out.2.alloc _).cell 3
    have hlb : ([] : List UInt8).length + bs.length ≤ 140737488355328 := by simp; omega
    have hsz2 : w2.heap.size ≤ (w2.alloc (.cells #[] 5)).drew.heap.size := by simp
    have HLB := Lib.hid hlb
    have HSZ := Lib.hid hsz2
    clear keyA c0 c2 c4 hlb hsz2 HK
    go_wp2_with fail
    go_region_held3 (fun w' => w'.cell? ⟨ab, 3, none⟩ = some bv) (first | assumption | exact c3 | exact cA | exact q3 | exact q4 | exact q5)
      (first
        | (refine step_append_bytes rfl (.tmp 30) (.tmp 32) rfl w2.heap.size _ [] rfl HOW.out bv bs rfl HBW.out HLB.out HSZ.out ?_; intro v3 w3 hv3 hg3; have A3 := Lib.hid (KA.out w3 hg3); have q3 : w3.cell? ⟨ab, 3, none⟩ = some bv := A3.out.2.cell 3)
        | (go_at_call 18; refine (pd_write ia v3 bs A3.out.1 (by simpa using hv3.bs) hso hss hsi A3.out.xlt).mono ?_; rintro e w4 ⟨rfl, P4, M4⟩; have A4 := Lib.hid (A3.out.of P4 M4); have q4 : w4.cell? ⟨ab, 3, none⟩ = some bv := A4.out.2.cell 3; have B4 := Lib.hid (HB.out.below A4.out.1.below))
        | (go_at_call 24; refine (px_write ia bv bs A4.out.1 HF.out.ok B4.out hso hss hsi A4.out.xlt).mono ?_; rintro e w5 ⟨rfl, P5, M5⟩; have A5 := Lib.hid (A4.out.of P5 M5); have q5 : w5.cell? ⟨ab, 3, none⟩ = some bv := A5.out.2.cell 3))
    have HR := Lib.hid A5.out.done
    clear q3 q4 q5 hv3 hg3 P4 M4 P5 M5 A3 A4 A5 B4 KA HOW HBW cA c3
    go_wp2
    go_ret
    exact ⟨rfl, _, HR.out, HF.out.write _ _⟩
  · have HBW : Hid (Bs (w2.alloc (.cells #[] 5)).drew bv bs) := (HB.out.below ((HBL.out.alloc HBL.out.size (.cells #[] 5)).drew))
    have HOW : Hid (Own (w2.alloc (.cells #[] 5)).drew w2.heap.size (.slice (some ⟨w2.heap.size, 0, none⟩) 0 0) []) := Own.empty w2 w2.heap.size (Nat.le_refl _)
    have keyA := fun (w3 : World) (hg3 : (w2.alloc (.cells #[] 5)).drew.grownBy w3 (Value.slice (some ⟨w2.heap.size, 0, none⟩) 0 0).ownBlock) => HA.out.grown ((((Below.refl w2.heap.size w2).alloc (Nat.le_refl _) (.cells #[] 5)).drew).grown hg3 (by simp) (fun q hq => by simp [Value.ownBlock] at hq; omega))
    have KA := Lib.hid keyA
    have cA : (w2.alloc (.cells #[] 5)).cell? ⟨ab, 3, none⟩ = some bv := (HA.out.2.alloc _).cell 3
    have hlb : ([] : List UInt8).length + bs.length ≤ 140737488355328 := by simp; omega
    have hsz2 : w2.heap.size ≤ (w2.alloc (.cells #[] 5)).drew.heap.size := by simp
    have HLB := Lib.hid hlb
    have HSZ := Lib.hid hsz2
    clear keyA c0 c2 c4 hlb hsz2 HK
    go_wp2_with fail
    go_region_held3 (fun w' => w'.cell? ⟨ab, 3, none⟩ = some bv) (first | assumption | exact c3 | exact cA | exact q3 | exact q4 | exact q5)
      (first
        | (refine step_append_bytes rfl (.tmp 30) (.tmp 32) rfl w2.heap.size _ [] rfl HOW.out bv bs rfl HBW.out HLB.out HSZ.out ?_; intro v3 w3 hv3 hg3; have A3 := Lib.hid (KA.out w3 hg3); have q3 : w3.cell? ⟨ab, 3, none⟩ = some bv := A3.out.2.cell 3)
        | (go_at_call 18; refine (pd_write ia v3 bs A3.out.1 (by simpa using hv3.bs) hso hss hsi A3.out.xlt).mono ?_; rintro e w4 ⟨rfl, P4, M4⟩; have A4 := Lib.hid (A3.out.of P4 M4); have q4 : w4.cell? ⟨ab, 3, none⟩ = some bv := A4.out.2.cell 3; have B4 := Lib.hid (HB.out.below A4.out.1.below))
        | (go_at_call 24; refine (px_write ia bv bs A4.out.1 HF.out.ok B4.out hso hss hsi A4.out.xlt).mono ?_; rintro e w5 ⟨rfl, P5, M5⟩; have A5 := Lib.hid (A4.out.of P5 M5); have q5 : w5.cell? ⟨ab, 3, none⟩ = some bv := A5.out.2.cell 3))
    have HR := Lib.hid A5.out.done
    clear q3 q4 q5 hv3 hg3 P4 M4 P5 M5 A3 A4 A5 B4 KA HOW HBW cA c3
    go_wp2
    go_ret
    exact ⟨rfl, _, HR.out, HF.out.write _ _⟩
  · clear c0 c2 c3 c4 HK HB WN
    go_wp2_with fail
    refine (pd_sync HA.out.1 hso hss).mono ?_
    rintro e w4 ⟨rfl, P4, M4⟩
    go_wp2_with fail
    refine (px_sync P4 HF.out.ok hso hss hsi).mono ?_
    rintro e w5 ⟨rfl, P5, M5⟩
    have HR := Lib.hid (P5.forget (X' := fun _ => False) (fun _ hx => hx.elim))
    clear P4 M4 P5 M5
    go_wp2_with fail
    go_ret
    exact ⟨rfl, _, HR.out, HF.out.sync⟩
  · clear c0 c2 c3 c4 HK HB WN
    go_wp2_with fail
    refine (pd_sync HA.out.1 hso hss).mono ?_
    rintro e w4 ⟨rfl, P4, M4⟩
    go_wp2_with fail
    refine (px_sync P4 HF.out.ok hso hss hsi).mono ?_
    rintro e w5 ⟨rfl, P5, M5⟩
    have HR := Lib.hid (P5.forget (X' := fun _ => False) (fun _ hx => hx.elim))
    clear P4 M4 P5 M5
    go_wp2_with fail
    go_ret
    exact ⟨rfl, _, HR.out, HF.out.sync⟩
  · have hnb3 : IntKind.i64.wrap (nb - 1) = nb - 1 := by rw [IntKind.wrap_i64]; omega
    obtain ⟨hnr1, hnr2⟩ := hnr
    clear c0 c3 c4 HK HB
    go_wp2_with fail
    refine (WN.out _).mono ?_
    rintro e wz ⟨rfl, hwz⟩
    replace hwz := hwz.symm
    subst hwz
    go_wp2_with fail
    refine (pd_stop (nb - 1) HA.out.1).mono ?_
    rintro e w4 ⟨rfl, P4, M4⟩
    have A4 := Lib.hid (HA.out.of P4 M4)
    have d2 : w4.cell? ⟨ab, 2, none⟩ = some (.int .i64 nn) := A4.out.2.cell 2
    clear P4 M4
    go_wp2_with fail
    refine (WN.out _).mono ?_
    rintro e wz ⟨rfl, hwz⟩
    replace hwz := hwz.symm
    subst hwz
    go_wp2_with fail
    refine (px_stop (nb - 1) A4.out.1).mono ?_
    rintro e w5 ⟨rfl, P9, M5⟩
    have HF9 := Lib.hid (HF.out.stopped (nb - 1).toNat (by omega))
    obtain ⟨s9, hs9⟩ : ∃ s9, s9 = ({ s with stop := (nb - 1).toNat } : Dsk) := ⟨_, rfl⟩
    rw [← hs9] at P9 HF9
    clear hs9 M5 A4 d2 c2 hnb3 WN HA
    have hok9 := HF9.out.ok
    have hsi9 : s9.since.length ≤ 1073741824 := by have := HF9.out.since; omega
    go_wp2_with fail
    refine (pd_read ia P9).mono ?_
    rintro e w10 ⟨v10, rfl, o10, b10, P10⟩
    go_wp2_with fail
    refine (px_read ia P10 hok9 hsi9).mono ?_
    rintro e w11 ⟨v11, rfl, o11, b11, P11⟩
    have k10 := run_conv_bytes (o10.below b11).bs
    have k11 := run_conv_bytes o11.bs
    obtain ⟨Y, hY⟩ : ∃ Y : ByteArray, Y = ⟨(readOf s9 ia).toArray⟩ := ⟨_, rfl⟩
    rw [← hY] at k10 k11
    have P12 := Lib.hid P11
    clear hY o10 o11 b10 b11 P9 P10 P11
    go_wp2
    go_ret
    exact ⟨rfl, s9, P12.out.forget (fun _ hx => hx.elim), HF9.out⟩
  · have HKW : Hid (Bl (w2.alloc (.cells #[] 4)) kv ks) := HK.out.moved (Moved.of_below (HBL.out.alloc HBL.out.size (.cells #[] 4)) (fun _ => False)) (fun _ _ _ h => h)
    have HOW : Hid ((w2.alloc (.cells #[] 4)).ownsRow w2.heap.size 4 1 (.slice (some ⟨w2.heap.size, 0, none⟩) 0 0) 0 []) := World.ownsRow_lit w2 #[] 0 (Nat.le_refl _) (by simp [maxLen]) rfl
    have hkv0 : 0 < ks.length → ∀ k, kv.ownBlock = some k → k < w0.heap.size := by
      intro h0 k hq
      obtain ⟨b, o, cc, e, -, -, hcc⟩ := HK.out.at h0
      rw [e] at hq
      simp [Value.ownBlock] at hq
      subst hq
      exact World.block_lt_of_cell? _ _ (hcc 0 h0)
    have HKV := Lib.hid hkv0
    clear hkv0 c0 c2 c3 HB WN
    go_wp2_with (at_builtin; refine wpList_append_bools rfl _ _ rfl w2.heap.size (.slice (some ⟨w2.heap.size, 0, none⟩) 0 0) rfl HOW.out kv ks rfl HKW.out (by omega) (by simp) ?_; intro v3 w3 hv3 hl3 hg3)
    have hB3 : Below w2.heap.size w2 w3 := ((Below.refl w2.heap.size w2).alloc (Nat.le_refl _) (.cells #[] 4)).grown hg3 (by simp) (fun q hq => by simp [Value.ownBlock] at hq; omega)
    have P3 := HA.out.1.grow hB3
    have B3 := HA.out.2.moved (Moved.of_below hB3 (fun _ => False)) (fun h => h)
    refine (pd_crash v3 ks P3 hv3 (fun _ k hq => .inl (.inr (hl3 k hq))) hsi).mono ?_
    rintro e w4 ⟨rfl, P4, M4⟩
    have B4 := B3.moved M4 (fun hn => hn (.inl rfl))
    have d4 : w4.cell? ⟨ab, 4, none⟩ = some kv := B4.cell 4
    have K4 := HK.out.moved (Moved.of_below P4.below (fun _ => False)) (fun _ _ _ h => h)
    have HP4 := Lib.hid P4
    have HK4 := Lib.hid K4
    clear hv3 hl3 hg3 hB3 P3 B3 M4 P4 B4 K4 HOW HKW
    go_wp2_with fail
    refine (px_crash kv ks HP4.out HK4.out (fun h0 k hq => .inr (HKV.out h0 k hq)) hsi).mono ?_
    rintro e w5 ⟨rfl, P9, M5⟩
    have HF9 := Lib.hid (HF.out.crash ks)
    generalize s.crash ks = s9 at P9 HF9
    clear M5 HP4 HK4 d4 c4
    have hok9 := HF9.out.ok
    have hsi9 : s9.since.length ≤ 1073741824 := by have := HF9.out.since; omega
    go_wp2_with fail
    refine (pd_read ia P9).mono ?_
    rintro e w10 ⟨v10, rfl, o10, b10, P10⟩
    go_wp2_with fail
    refine (px_read ia P10 hok9 hsi9).mono ?_
    rintro e w11 ⟨v11, rfl, o11, b11, P11⟩
    have k10 := run_conv_bytes (o10.below b11).bs
    have k11 := run_conv_bytes o11.bs
    obtain ⟨Y, hY⟩ : ∃ Y : ByteArray, Y = ⟨(readOf s9 ia).toArray⟩ := ⟨_, rfl⟩
    rw [← hY] at k10 k11
    have P12 := Lib.hid P11
    clear hY o10 o11 b10 b11 P9 P10 P11
    go_wp2
    go_ret
    exact ⟨rfl, s9, P12.out.forget (fun _ hx => hx.elim), HF9.out⟩
  · have P9 := HA.out.1
    have HF9 := Lib.hid HF.out.next
    obtain ⟨s9, hs9⟩ : ∃ s9, s9 = s := ⟨_, rfl⟩
    rw [← hs9] at P9 HF9
    clear hs9 c0 c2 c3 c4 HK HB WN
    have hok9 := HF9.out.ok
    have hsi9 : s9.since.length ≤ 1073741824 := by have := HF9.out.since; omega
    go_wp2_with fail
    refine (pd_read ia P9).mono ?_
    rintro e w10 ⟨v10, rfl, o10, b10, P10⟩
    go_wp2_with fail
    refine (px_read ia P10 hok9 hsi9).mono ?_
    rintro e w11 ⟨v11, rfl, o11, b11, P11⟩
    have k10 := run_conv_bytes (o10.below b11).bs
    have k11 := run_conv_bytes o11.bs
    obtain ⟨Y, hY⟩ : ∃ Y : ByteArray, Y = ⟨(readOf s9 ia).toArray⟩ := ⟨_, rfl⟩
    rw [← hY] at k10 k11
    have P12 := Lib.hid P11
    clear hY o10 o11 b10 b11 P9 P10 P11
    go_wp2
    go_ret
    exact ⟨rfl, s9, P12.out.forget (fun _ hx => hx.elim), HF9.out⟩
end Go.Proofs.Ytejjeaknpbdeaaa
