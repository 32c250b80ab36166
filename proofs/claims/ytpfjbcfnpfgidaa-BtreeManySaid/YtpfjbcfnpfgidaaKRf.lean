/- Rf -/
import Derived.Test.YtpfjbcfnpfgidaaKGr
import Derived.Test.YtpfjbcfnpfgidaaKWR
import Derived.Test.YtpfjbcfnpfgidaaKRc
namespace Go.Proofs.Ytpfjbcfnpfgidaa
open Go.RowKit Go.Maps
set_option maxRecDepth 100000
set_option linter.unusedVariables false
/-- Is a key between? -/
def betK (fr to a : ByteArray) : Bool := geB a fr && (to.toList.isEmpty || !geB a to)
def rgKV (fr to : ByteArray) (m : Nat) (l : List (ByteArray × ByteArray)) : List (ByteArray × ByteArray) := (l.filter (fun p => betK fr to p.1)).take m
theorem rrange_neg (x : Nat) (fr to : ByteArray) (most : Int) (hm : most < 0) (w : World) :
 Calls Try.prog 12 #[.pointer (some ⟨x, 0, none⟩), .string fr, .string to, .int .i64 most] w fun e w' => e = .returned (.tuple #[.slice none 0 0, .slice none 0 0, .int .i64 1]) ∧ w' = w := by
 go_enter Try.func12, Try.ntmps12
 go_wp2_with fail
 go_ret3
 exact ⟨rfl, rfl⟩
set_option maxHeartbeats 16000000 in
theorem rrange_any {w0 : World} {D : Nat → Prop} {w : World} {B x : Nat} {kv vv : Value} {K V : List ByteArray} (h : MapAt w0 D w B x kv vv K V) (hKV : V.length = K.length) (fr to : ByteArray) (m : Nat) (hl : K.length ≤ 90000) :
 Calls Try.prog 12 #[.pointer (some ⟨x, 0, none⟩), .string fr, .string to, .int .i64 (m : Int)] w fun e w' => ∃ ok ov, e = .returned (.tuple #[ok, ov, .int .i64 0]) ∧ OwnS w' w.heap.size ok ((rgKV fr to m (K.zip V)).map Prod.fst) ∧ OwnS w' w.heap.size ov ((rgKV fr to m (K.zip V)).map Prod.snd) ∧ Below w.heap.size w w' := by
 obtain ⟨R, hR⟩ : ∃ R, R = rgKV fr to m (K.zip V) := ⟨_, rfl⟩
 rw [← hR]
 obtain ⟨ao, cap, e1, k1, k2⟩ := (show OwnS _ _ kv _ from Live.at1 h).ss.form
 obtain ⟨ao2, cap2, e2, k3, k4⟩ := (show OwnS _ _ vv _ from Live.at2 h).ss.form
 obtain ⟨n, hn⟩ : ∃ n, n = K.length := ⟨_, rfl⟩
 rw [hKV] at e2 k3
 rw [← hn] at e1 e2 k1 k3 hl hKV
 subst e1 e2
 have hx := h.x.1
 have hcell : ∀ i (hi : i < n), ∃ g g2 a b, ao = some ⟨g, 0, none⟩ ∧ ao2 = some ⟨g2, 0, none⟩ ∧ w.cell? ⟨g, i, none⟩ = some (.string a) ∧ w.cell? ⟨g2, i, none⟩ = some (.string b) ∧ g < w.heap.size ∧ g2 < w.heap.size ∧ (K.zip V)[i]? = some (a, b) := fun i hi => by
  obtain ⟨g, cp, e, -, -, hc, -, -, hg⟩ := OwnS.cells (Live.at1 h) i (by show i < K.length; omega)
  obtain ⟨g2, cp2, e2, -, -, hc2, -, -, hg2⟩ := OwnS.cells (Live.at2 h) i (by show i < V.length; omega)
  simp only [Value.slice.injEq] at e e2
  refine ⟨g, g2, _, _, e.1, e2.1, hc, hc2, hg, hg2, ?_⟩
  rw [List.getElem?_zip_eq_some]
  exact ⟨List.getElem?_eq_getElem (by omega), List.getElem?_eq_getElem (by omega)⟩
 have hlow := h.low
 have HCELL := Lib.hid hcell
 have HX := Lib.hid hx
 have HZ := Lib.hid (show (K.zip V).length = n by rw [List.length_zip, hKV, ← hn, Nat.min_self])
 have HRR := Lib.hid hR
 have hx0 : w.cell? ⟨x, 0, none⟩ = some (.slice ao n cap) := by rw [hx.cell]; rfl
 have hx1 : w.cell? ⟨x, 1, none⟩ = some (.slice ao2 n cap2) := by rw [hx.cell]; rfl
 have X0 := Lib.hid hx0
 have X1 := Lib.hid hx1
 have HXL := Lib.hid hx.lt
 have hm0 : ¬ (m : Int) < 0 := by omega
 clear h hn hKV hx hcell hlow hR hx0 hx1
 go_enter Try.func12, Try.ntmps12
 go_wp2_with fail
 go_loopw [11, 12, 13] (fun s11 s12 s13 wr => ∃ (k : Nat) (had : List (ByteArray × ByteArray)), k ≤ n ∧ s13 = .int .i64 k ∧ Live w (fun _ => False) wr w.heap.size [] [(s11, had.map Prod.fst), (s12, had.map Prod.snd)] ∧ had.length ≤ m ∧ had.length ≤ k ∧ R = had ++ (((K.zip V).drop k).filter (fun p => betK fr to p.1)).take (m - had.length)) (fun _ _ s13 _ => n - (intOf s13).toNat)
 case atStart =>
  refine ⟨0, [], Nat.zero_le _, rfl, ⟨fun x hx => (by cases hx), fun r hr => ?_, ?_, Nat.le_refl _, Moved.refl _ _, fun r hr q hq => ?_⟩, Nat.zero_le _, Nat.zero_le _, by rw [HRR.out]; rfl⟩
  ·simp only [List.map_nil, List.mem_cons, List.not_mem_nil, or_false] at hr
   rcases hr with rfl | rfl <;> exact World.ownsRow_nil _ _ _ _
  ·simp [Value.ownBlock]
  ·simp only [List.map_nil, List.mem_cons, List.not_mem_nil, or_false] at hr
   rcases hr with rfl | rfl <;> cases hq
 case round =>
  obtain ⟨k, had, hk, rfl, hlv, hm1, hm2, hRk⟩ := hrel
  have hbel : Below w.heap.size w wr := hlv.mv.below (fun j hj => hj.elim) (Nat.le_refl _)
  obtain ⟨a1, p1, e1, q1, q2⟩ := (show OwnS _ _ u11 _ from hlv.at1).ss.form
  rw [List.length_map] at e1 q1
  obtain ⟨h0, hh0⟩ : ∃ h0, h0 = had.length := ⟨_, rfl⟩
  rw [← hh0] at e1 q1 hm1 hm2
  subst e1
  have c0 : wr.cell? ⟨x, 0, none⟩ = some (.slice ao n cap) := (hbel.cell (show (⟨x, 0, none⟩ : Addr).block < _ from HXL.out)).trans X0.out
  have c1 : wr.cell? ⟨x, 1, none⟩ = some (.slice ao2 n cap2) := (hbel.cell (show (⟨x, 1, none⟩ : Addr).block < _ from HXL.out)).trans X1.out
  have HBEL := Lib.hid hbel
  have HLV := Lib.hid hlv
  have HRK := Lib.hid hRk
  have HH0 := Lib.hid hh0
  by_cases hlt : k < n
  ·have hlt' : (k : Int) < n := by omega
   obtain ⟨g, g2, a, b, rfl, rfl, d1, d2, hg, hg2, hz⟩ := HCELL.out k hlt
   by_cases hmm : h0 < m
   ·have hmm' : (h0 : Int) < m := by omega
    have z1 : wr.cell? ⟨g, k, none⟩ = some (.string a) := (hbel.cell (show (⟨g, k, none⟩ : Addr).block < _ from hg)).trans d1
    have z2 : wr.cell? ⟨g2, k, none⟩ = some (.string b) := (hbel.cell (show (⟨g2, k, none⟩ : Addr).block < _ from hg2)).trans d2
    have hdrop : (K.zip V).drop k = (a, b) :: (K.zip V).drop (k + 1) := by
     obtain ⟨hk', hz'⟩ := List.getElem?_eq_some_iff.1 hz
     rw [List.drop_eq_getElem_cons hk', hz']
    have hskip : betK fr to a = false → R = had ++ (((K.zip V).drop (k + 1)).filter (fun p => betK fr to p.1)).take (m - had.length) := fun hb => by
     rw [hRk, hdrop, List.filter_cons, if_neg (by simp [hb])]
    have htake : betK fr to a = true → R = (had ++ [(a, b)]) ++ (((K.zip V).drop (k + 1)).filter (fun p => betK fr to p.1)).take (m - (had ++ [(a, b)]).length) := fun hb => by
     rw [hRk, hdrop, List.filter_cons, if_pos (by simp [hb]), List.length_append, List.length_singleton, show m - had.length = (m - (had.length + 1)) + 1 by omega, List.take_succ_cons, List.append_assoc]; rfl
    have HSK := Lib.hid hskip
    have HTK := Lib.hid htake
    have HLEN := Lib.hid (show had.length ≤ 90000 by omega)
    have HC := Lib.hid (show ∀ w' R', Live w (fun _ => False) w' w.heap.size [] R' → (w'.cell? ⟨x, 0, none⟩ = some (.slice (some ⟨g, 0, none⟩) n cap) ∧ w'.cell? ⟨x, 1, none⟩ = some (.slice (some ⟨g2, 0, none⟩) n cap2)) ∧ w'.cell? ⟨g, k, none⟩ = some (.string a) ∧ w'.cell? ⟨g2, k, none⟩ = some (.string b) from fun w' R' hl => by
     have hb := hl.mv.below (B := w.heap.size) (fun j hj => hj.elim) (Nat.le_refl _)
     exact ⟨⟨(hb.cell (show (⟨x, 0, none⟩ : Addr).block < _ from HXL.out)).trans X0.out, (hb.cell (show (⟨x, 1, none⟩ : Addr).block < _ from HXL.out)).trans X1.out⟩, (hb.cell (show (⟨g, k, none⟩ : Addr).block < _ from hg)).trans d1, (hb.cell (show (⟨g2, k, none⟩ : Addr).block < _ from hg2)).trans d2⟩)
    have ka : (0 : Int) ≤ k := by omega
    obtain ⟨wo, rfl⟩ : ∃ wo, wo = wr := ⟨_, rfl⟩
    clear hlv hbel hRk hh0 hdrop hskip htake hz d1 d2 hg hg2 hm0
    cases t1 : Op.bytesLess a.toList fr.toList with
    | true =>
     have hbk : betK fr to a = false := by unfold betK geB; rw [t1]; rfl
     have HBK := Lib.hid hbk
     clear hbk
     go_wp2_with fail
     go_roundw
     case rel => exact ⟨k + 1, had, by omega, by go_num, HLV.out, by rw [← HH0.out]; exact hm1, by rw [← HH0.out]; omega, HSK.out HBK.out⟩
     case measure => simp [intOf]; omega
    | false =>
     by_cases t2 : to.toList = []
     ·have hbk : betK fr to a = true := by unfold betK geB; rw [t1, t2]; rfl
      have HBK := Lib.hid hbk
      clear hbk
      go_wp2_with fail
      clear c0 c1 z1 z2
      refine wp_region_any (by kernel_rfl) ?_
      change wpAny _ _ _ _ _ _ _ (World.drew _)
      refine wpAny_of_T (C := fun (w' : World) => (w'.cell? ⟨x, 0, none⟩ = some (.slice (some ⟨g, 0, none⟩) n cap) ∧ w'.cell? ⟨x, 1, none⟩ = some (.slice (some ⟨g2, 0, none⟩) n cap2)) ∧ w'.cell? ⟨g, k, none⟩ = some (.string a) ∧ w'.cell? ⟨g2, k, none⟩ = some (.string b)) (T := []) _ _ _ _ ?_
      have hS : (fun (w' : World) => (w'.cell? ⟨x, 0, none⟩ = some (.slice (some ⟨g, 0, none⟩) n cap) ∧ w'.cell? ⟨x, 1, none⟩ = some (.slice (some ⟨g2, 0, none⟩) n cap2)) ∧ w'.cell? ⟨g, k, none⟩ = some (.string a) ∧ w'.cell? ⟨g2, k, none⟩ = some (.string b)) _ := HC.out _ _ (Live.drew HLV.out)
      have hL0 := Live.drew HLV.out
      generalize World.drew wo = u0 at hL0 hS ⊢
      try simp only [Act.put, List.setIfInBounds_toArray, List.set_cons_zero, List.set_cons_succ]
      refine wpAnyT_take (i := 0) (oi := ⟨some 55, _, _, _, _, _⟩) (v := ?_) rfl (by kernel_rfl) (by kernel_rfl) (by kernel_rfl) (by kernel_rfl) (fun _ _ _ h => h) (Or.inl ⟨by simp only [Region.wanted], ?_⟩) hS ?_
      rotate_left
      ·intro wz hSw
       clear hSw
       go_simp
       first | done | with_reducible rfl
      try simp only [Act.put, List.setIfInBounds_toArray, List.set_cons_zero, List.set_cons_succ]
      refine wpAnyT_take (i := 1) (oi := ⟨some 56, _, _, _, _, _⟩) (v := ?_) rfl (by kernel_rfl) (by kernel_rfl) (by kernel_rfl) (by kernel_rfl) (fun _ _ _ h => h) (Or.inl ⟨by simp only [Region.wanted], ?_⟩) hS ?_
      rotate_left
      ·intro wz hSw
       clear hSw
       go_simp
       first | done | with_reducible rfl
      try simp only [Act.put, List.setIfInBounds_toArray, List.set_cons_zero, List.set_cons_succ]
      refine wpAnyT_take (i := 2) (oi := ⟨some 57, _, _, _, _, _⟩) (v := ?_) rfl (by kernel_rfl) (by kernel_rfl) (by kernel_rfl) (by kernel_rfl) (fun _ _ _ h => h) (Or.inl ⟨by simp only [Region.wanted], ?_⟩) hS ?_
      rotate_left
      ·intro wz hSw
       clear hSw
       go_simp
       first | done | with_reducible rfl
      try simp only [Act.put, List.setIfInBounds_toArray, List.set_cons_zero, List.set_cons_succ]
      refine wpAnyT_take (i := 3) (oi := ⟨some 58, _, _, _, _, _⟩) (v := ?_) rfl (by kernel_rfl) (by kernel_rfl) (by kernel_rfl) (by kernel_rfl) (fun _ _ _ h => h) (Or.inl ⟨by simp only [Region.wanted], ?_⟩) hS ?_
      rotate_left
      ·intro wz hSw
       clear hSw
       go_simp
       first | done | with_reducible rfl
      try simp only [Act.put, List.setIfInBounds_toArray, List.set_cons_zero, List.set_cons_succ]
      refine wpAnyT_take (i := 4) (oi := ⟨some 59, _, _, _, _, _⟩) (v := ?_) rfl (by kernel_rfl) (by kernel_rfl) (by kernel_rfl) (by kernel_rfl) (fun _ _ _ h => h) (Or.inl ⟨by simp only [Region.wanted], ?_⟩) hS ?_
      rotate_left
      ·intro wz hSw
       (try dsimp only at hSw)
       (try go_split_ands)
       go_simp
       first | done | with_reducible rfl
      try simp only [Act.put, List.setIfInBounds_toArray, List.set_cons_zero, List.set_cons_succ]
      refine wpAnyT_take (i := 5) (oi := ⟨some 60, _, _, _, _, _⟩) (v := ?_) rfl (by kernel_rfl) (by kernel_rfl) (by kernel_rfl) (by kernel_rfl) (fun _ _ _ h => h) (Or.inl ⟨by simp only [Region.wanted], ?_⟩) hS ?_
      rotate_left
      ·intro wz hSw
       clear hSw
       go_simp
       first | done | with_reducible rfl
      try simp only [Act.put, List.setIfInBounds_toArray, List.set_cons_zero, List.set_cons_succ]
      refine wpAnyT_take (i := 6) (oi := ⟨some 61, _, _, _, _, _⟩) (v := ?_) rfl (by kernel_rfl) (by kernel_rfl) (by kernel_rfl) (by kernel_rfl) (fun _ _ _ h => h) (Or.inl ⟨by simp only [Region.wanted], ?_⟩) hS ?_
      rotate_left
      ·intro wz hSw
       clear hSw
       go_simp
       first | done | with_reducible rfl
      try simp only [Act.put, List.setIfInBounds_toArray, List.set_cons_zero, List.set_cons_succ]
      refine wpAnyT_take (i := 7) (oi := ⟨some 62, _, _, _, _, _⟩) (v := ?_) rfl (by kernel_rfl) (by kernel_rfl) (by kernel_rfl) (by kernel_rfl) (fun _ _ _ h => h) (Or.inl ⟨by simp only [Region.wanted], ?_⟩) hS ?_
      rotate_left
      ·intro wz hSw
       (try dsimp only at hSw)
       (try go_split_ands)
       go_simp
       first | done | with_reducible rfl
      try simp only [Act.put, List.setIfInBounds_toArray, List.set_cons_zero, List.set_cons_succ]
      refine wpAnyT_take (i := 10) (oi := ⟨some 65, _, _, _, _, _⟩) (v := ?_) rfl (by kernel_rfl) (by kernel_rfl) (by kernel_rfl) (by kernel_rfl) (fun _ _ _ h => h) (Or.inl ⟨by simp only [Region.wanted], ?_⟩) hS ?_
      rotate_left
      ·intro wz hSw
       clear hSw
       go_simp
       first | done | with_reducible rfl
      try simp only [Act.put, List.setIfInBounds_toArray, List.set_cons_zero, List.set_cons_succ]
      refine wpAnyT_take (i := 11) (oi := ⟨some 66, _, _, _, _, _⟩) (v := ?_) rfl (by kernel_rfl) (by kernel_rfl) (by kernel_rfl) (by kernel_rfl) (fun _ _ _ h => h) (Or.inl ⟨by simp only [Region.wanted], ?_⟩) hS ?_
      rotate_left
      ·intro wz hSw
       clear hSw
       go_simp
       first | done | with_reducible rfl
      try simp only [Act.put, List.setIfInBounds_toArray, List.set_cons_zero, List.set_cons_succ]
      refine wpAnyT_take (i := 12) (oi := ⟨some 67, _, _, _, _, _⟩) (v := ?_) rfl (by kernel_rfl) (by kernel_rfl) (by kernel_rfl) (by kernel_rfl) (fun _ _ _ h => h) (Or.inl ⟨by simp only [Region.wanted], ?_⟩) hS ?_
      rotate_left
      ·intro wz hSw
       clear hSw
       go_simp
       first | done | with_reducible rfl
      try simp only [Act.put, List.setIfInBounds_toArray, List.set_cons_zero, List.set_cons_succ]
      refine wpAnyT_take (i := 13) (oi := ⟨some 68, _, _, _, _, _⟩) (v := ?_) rfl (by kernel_rfl) (by kernel_rfl) (by kernel_rfl) (by kernel_rfl) (fun _ _ _ h => h) (Or.inl ⟨by simp only [Region.wanted], ?_⟩) hS ?_
      rotate_left
      ·intro wz hSw
       clear hSw
       go_simp
       first | done | with_reducible rfl
      try simp only [Act.put, List.setIfInBounds_toArray, List.set_cons_zero, List.set_cons_succ]
      refine wpAnyT_take (i := 14) (oi := ⟨some 69, _, _, _, _, _⟩) (v := ?_) rfl (by kernel_rfl) (by kernel_rfl) (by kernel_rfl) (by kernel_rfl) (fun _ _ _ h => h) (Or.inl ⟨by simp only [Region.wanted], ?_⟩) hS ?_
      rotate_left
      ·intro wz hSw
       (try dsimp only at hSw)
       (try go_split_ands)
       go_simp
       first | done | with_reducible rfl
      try simp only [Act.put, List.setIfInBounds_toArray, List.set_cons_zero, List.set_cons_succ]
      refine wpAnyT_take (i := 15) (oi := ⟨some 70, _, _, _, _, _⟩) (v := ?_) rfl (by kernel_rfl) (by kernel_rfl) (by kernel_rfl) (by kernel_rfl) (fun _ _ _ h => h) (Or.inl ⟨by simp only [Region.wanted], ?_⟩) hS ?_
      rotate_left
      ·intro wz hSw
       clear hSw
       go_simp
       first | done | with_reducible rfl
      try simp only [Act.put, List.setIfInBounds_toArray, List.set_cons_zero, List.set_cons_succ]
      refine wpAnyT_take (i := 16) (oi := ⟨some 71, _, _, _, _, _⟩) (v := ?_) rfl (by kernel_rfl) (by kernel_rfl) (by kernel_rfl) (by kernel_rfl) (fun _ _ _ h => h) (Or.inl ⟨by simp only [Region.wanted], ?_⟩) hS ?_
      rotate_left
      ·intro wz hSw
       clear hSw
       go_simp
       first | done | with_reducible rfl
      try simp only [Act.put, List.setIfInBounds_toArray, List.set_cons_zero, List.set_cons_succ]
      refine wpAnyT_take (i := 17) (oi := ⟨some 72, _, _, _, _, _⟩) (v := ?_) rfl (by kernel_rfl) (by kernel_rfl) (by kernel_rfl) (by kernel_rfl) (fun _ _ _ h => h) (Or.inl ⟨by simp only [Region.wanted], ?_⟩) hS ?_
      rotate_left
      ·intro wz hSw
       (try dsimp only at hSw)
       (try go_split_ands)
       go_simp
       first | done | with_reducible rfl
      try simp only [Act.put, List.setIfInBounds_toArray, List.set_cons_zero, List.set_cons_succ]
      refine wpAnyT_ready (rs := [8, 18]) (by kernel_rfl) (by simp) ?_
      refine AllReadyT.cons (o := ⟨some 63, _, _, _, _, _⟩) rfl (fun KK hK => ?_) (AllReadyT.cons (o := ⟨some 73, _, _, _, _, _⟩) rfl (fun KK hK => ?_) (AllReadyT.nil))
      ·have hL1 := hL0.text (a)
       go_simp
       generalize World.alloc u0 _ = u1 at hL1 ⊢
       refine hK.out _ _ (HC.out _ _ hL1) (fun hS => ?_)
       clear hK KK
       try simp only [Act.put, List.setIfInBounds_toArray, List.set_cons_zero, List.set_cons_succ]
       refine wpAnyT_ready (rs := [9, 18]) (by kernel_rfl) (by simp) ?_
       refine AllReadyT.cons (o := ⟨some 64, _, _, _, _, _⟩) rfl (fun KK hK => ?_) (AllReadyT.cons (o := ⟨some 73, _, _, _, _, _⟩) rfl (fun KK hK => ?_) (AllReadyT.nil))
       ·refine step_append_ss rfl _ _ rfl _ hL1.low (.slice a1 h0 p1) (had.map Prod.fst) rfl hL1.at1 (.slice (some ⟨u0.heap.size, 0, none⟩) 1 1) ([a]) rfl (hL1.at3.ss) (by have e1 := HLEN.out; simp; omega) ?_
        intro kv2 u2 ho hg hq
        have hL2 := hL1.grow1 _ _ ho hg hq
        clear ho hg hq
        refine hK.out _ _ (HC.out _ _ hL2) (fun hS => ?_)
        clear hK KK
        try simp only [Act.put, List.setIfInBounds_toArray, List.set_cons_zero, List.set_cons_succ]
        refine wpAnyT_ready (rs := [18]) (by kernel_rfl) (by simp) ?_
        refine AllReadyT.cons (o := ⟨some 73, _, _, _, _, _⟩) rfl (fun KK hK => ?_) (AllReadyT.nil)
        ·have hL3 := hL2.text (b)
         go_simp
         generalize World.alloc u2 _ = u3 at hL3 ⊢
         refine hK.out _ _ (HC.out _ _ hL3) (fun hS => ?_)
         clear hK KK
         try simp only [Act.put, List.setIfInBounds_toArray, List.set_cons_zero, List.set_cons_succ]
         refine wpAnyT_ready (rs := [19]) (by kernel_rfl) (by simp) ?_
         refine AllReadyT.cons (o := ⟨some 74, _, _, _, _, _⟩) rfl (fun KK hK => ?_) (AllReadyT.nil)
         ·refine step_append_ss rfl _ _ rfl _ hL3.low (u12) (had.map Prod.snd) rfl hL3.at2 (.slice (some ⟨u2.heap.size, 0, none⟩) 1 1) ([b]) rfl (hL3.at4.ss) (by have e1 := HLEN.out; simp; omega) ?_
          intro vv4 u4 ho hg hq
          have hL4 := hL3.grow2 _ _ ho hg hq
          clear ho hg hq
          refine hK.out _ _ (HC.out _ _ hL4) (fun hS => ?_)
          clear hK KK
          try simp only [Act.put, List.setIfInBounds_toArray, List.set_cons_zero, List.set_cons_succ]
          refine wpAnyT_take (i := 20) (oi := ⟨some 11, _, _, _, _, _⟩) (v := ?_) rfl (by kernel_rfl) (by kernel_rfl) (by kernel_rfl) (by kernel_rfl) (fun _ _ _ h => h) (Or.inl ⟨by simp only [Region.wanted], ?_⟩) hS ?_
          rotate_left
          ·intro wz hSw
           clear hSw
           go_simp
           first | done | with_reducible rfl
          try simp only [Act.put, List.setIfInBounds_toArray, List.set_cons_zero, List.set_cons_succ]
          refine wpAnyT_take (i := 21) (oi := ⟨some 12, _, _, _, _, _⟩) (v := ?_) rfl (by kernel_rfl) (by kernel_rfl) (by kernel_rfl) (by kernel_rfl) (fun _ _ _ h => h) (Or.inl ⟨by simp only [Region.wanted], ?_⟩) hS ?_
          rotate_left
          ·intro wz hSw
           clear hSw
           go_simp
           first | done | with_reducible rfl
          try simp only [Act.put, List.setIfInBounds_toArray, List.set_cons_zero, List.set_cons_succ]
          refine wpAnyT_done (by kernel_rfl) ?_ _
          have HF := Lib.hid (hL4.sub (List.Sublist.cons_cons _ (List.Sublist.cons_cons _ (List.nil_sublist _))))
          clear hS hL0 hL1 hL2 hL3 hL4
          go_wp2_with fail
          go_roundw
          case rel =>
           refine ⟨k + 1, had ++ [(a, b)], by omega, by go_num, ?_, by rw [List.length_append, List.length_singleton, ← HH0.out]; omega, by rw [List.length_append, List.length_singleton, ← HH0.out]; omega, HTK.out HBK.out⟩
           rw [List.map_append, List.map_append]
           exact HF.out
          case measure => simp [intOf]; omega
       ·have hL2 := hL1.text (b)
        go_simp
        generalize World.alloc u1 _ = u2 at hL2 ⊢
        refine hK.out _ _ (HC.out _ _ hL2) (fun hS => ?_)
        clear hK KK
        try simp only [Act.put, List.setIfInBounds_toArray, List.set_cons_zero, List.set_cons_succ]
        refine wpAnyT_ready (rs := [9]) (by kernel_rfl) (by simp) ?_
        refine AllReadyT.cons (o := ⟨some 64, _, _, _, _, _⟩) rfl (fun KK hK => ?_) (AllReadyT.nil)
        ·refine step_append_ss rfl _ _ rfl _ hL2.low (.slice a1 h0 p1) (had.map Prod.fst) rfl hL2.at1 (.slice (some ⟨u0.heap.size, 0, none⟩) 1 1) ([a]) rfl (hL2.at3.ss) (by have e1 := HLEN.out; simp; omega) ?_
         intro kv3 u3 ho hg hq
         have hL3 := hL2.grow1 _ _ ho hg hq
         clear ho hg hq
         refine hK.out _ _ (HC.out _ _ hL3) (fun hS => ?_)
         clear hK KK
         try simp only [Act.put, List.setIfInBounds_toArray, List.set_cons_zero, List.set_cons_succ]
         refine wpAnyT_ready (rs := [19]) (by kernel_rfl) (by simp) ?_
         refine AllReadyT.cons (o := ⟨some 74, _, _, _, _, _⟩) rfl (fun KK hK => ?_) (AllReadyT.nil)
         ·refine step_append_ss rfl _ _ rfl _ hL3.low (u12) (had.map Prod.snd) rfl hL3.at2 (.slice (some ⟨u1.heap.size, 0, none⟩) 1 1) ([b]) rfl (hL3.at4.ss) (by have e1 := HLEN.out; simp; omega) ?_
          intro vv4 u4 ho hg hq
          have hL4 := hL3.grow2 _ _ ho hg hq
          clear ho hg hq
          refine hK.out _ _ (HC.out _ _ hL4) (fun hS => ?_)
          clear hK KK
          try simp only [Act.put, List.setIfInBounds_toArray, List.set_cons_zero, List.set_cons_succ]
          refine wpAnyT_take (i := 20) (oi := ⟨some 11, _, _, _, _, _⟩) (v := ?_) rfl (by kernel_rfl) (by kernel_rfl) (by kernel_rfl) (by kernel_rfl) (fun _ _ _ h => h) (Or.inl ⟨by simp only [Region.wanted], ?_⟩) hS ?_
          rotate_left
          ·intro wz hSw
           clear hSw
           go_simp
           first | done | with_reducible rfl
          try simp only [Act.put, List.setIfInBounds_toArray, List.set_cons_zero, List.set_cons_succ]
          refine wpAnyT_take (i := 21) (oi := ⟨some 12, _, _, _, _, _⟩) (v := ?_) rfl (by kernel_rfl) (by kernel_rfl) (by kernel_rfl) (by kernel_rfl) (fun _ _ _ h => h) (Or.inl ⟨by simp only [Region.wanted], ?_⟩) hS ?_
          rotate_left
          ·intro wz hSw
           clear hSw
           go_simp
           first | done | with_reducible rfl
          try simp only [Act.put, List.setIfInBounds_toArray, List.set_cons_zero, List.set_cons_succ]
          refine wpAnyT_done (by kernel_rfl) ?_ _
          have HF := Lib.hid (hL4.sub (List.Sublist.cons_cons _ (List.Sublist.cons_cons _ (List.nil_sublist _))))
          clear hS hL0 hL1 hL2 hL3 hL4
          go_wp2_with fail
          go_roundw
          case rel =>
           refine ⟨k + 1, had ++ [(a, b)], by omega, by go_num, ?_, by rw [List.length_append, List.length_singleton, ← HH0.out]; omega, by rw [List.length_append, List.length_singleton, ← HH0.out]; omega, HTK.out HBK.out⟩
           rw [List.map_append, List.map_append]
           exact HF.out
          case measure => simp [intOf]; omega
      ·have hL1 := hL0.text (b)
       go_simp
       generalize World.alloc u0 _ = u1 at hL1 ⊢
       refine hK.out _ _ (HC.out _ _ hL1) (fun hS => ?_)
       clear hK KK
       try simp only [Act.put, List.setIfInBounds_toArray, List.set_cons_zero, List.set_cons_succ]
       refine wpAnyT_ready (rs := [8]) (by kernel_rfl) (by simp) ?_
       refine AllReadyT.cons (o := ⟨some 63, _, _, _, _, _⟩) rfl (fun KK hK => ?_) (AllReadyT.nil)
       ·have hL2 := hL1.text (a)
        go_simp
        generalize World.alloc u1 _ = u2 at hL2 ⊢
        refine hK.out _ _ (HC.out _ _ hL2) (fun hS => ?_)
        clear hK KK
        try simp only [Act.put, List.setIfInBounds_toArray, List.set_cons_zero, List.set_cons_succ]
        refine wpAnyT_ready (rs := [9]) (by kernel_rfl) (by simp) ?_
        refine AllReadyT.cons (o := ⟨some 64, _, _, _, _, _⟩) rfl (fun KK hK => ?_) (AllReadyT.nil)
        ·refine step_append_ss rfl _ _ rfl _ hL2.low (.slice a1 h0 p1) (had.map Prod.fst) rfl hL2.at1 (.slice (some ⟨u1.heap.size, 0, none⟩) 1 1) ([a]) rfl (hL2.at4.ss) (by have e1 := HLEN.out; simp; omega) ?_
         intro kv3 u3 ho hg hq
         have hL3 := hL2.grow1 _ _ ho hg hq
         clear ho hg hq
         refine hK.out _ _ (HC.out _ _ hL3) (fun hS => ?_)
         clear hK KK
         try simp only [Act.put, List.setIfInBounds_toArray, List.set_cons_zero, List.set_cons_succ]
         refine wpAnyT_ready (rs := [19]) (by kernel_rfl) (by simp) ?_
         refine AllReadyT.cons (o := ⟨some 74, _, _, _, _, _⟩) rfl (fun KK hK => ?_) (AllReadyT.nil)
         ·refine step_append_ss rfl _ _ rfl _ hL3.low (u12) (had.map Prod.snd) rfl hL3.at2 (.slice (some ⟨u0.heap.size, 0, none⟩) 1 1) ([b]) rfl (hL3.at3.ss) (by have e1 := HLEN.out; simp; omega) ?_
          intro vv4 u4 ho hg hq
          have hL4 := hL3.grow2 _ _ ho hg hq
          clear ho hg hq
          refine hK.out _ _ (HC.out _ _ hL4) (fun hS => ?_)
          clear hK KK
          try simp only [Act.put, List.setIfInBounds_toArray, List.set_cons_zero, List.set_cons_succ]
          refine wpAnyT_take (i := 20) (oi := ⟨some 11, _, _, _, _, _⟩) (v := ?_) rfl (by kernel_rfl) (by kernel_rfl) (by kernel_rfl) (by kernel_rfl) (fun _ _ _ h => h) (Or.inl ⟨by simp only [Region.wanted], ?_⟩) hS ?_
          rotate_left
          ·intro wz hSw
           clear hSw
           go_simp
           first | done | with_reducible rfl
          try simp only [Act.put, List.setIfInBounds_toArray, List.set_cons_zero, List.set_cons_succ]
          refine wpAnyT_take (i := 21) (oi := ⟨some 12, _, _, _, _, _⟩) (v := ?_) rfl (by kernel_rfl) (by kernel_rfl) (by kernel_rfl) (by kernel_rfl) (fun _ _ _ h => h) (Or.inl ⟨by simp only [Region.wanted], ?_⟩) hS ?_
          rotate_left
          ·intro wz hSw
           clear hSw
           go_simp
           first | done | with_reducible rfl
          try simp only [Act.put, List.setIfInBounds_toArray, List.set_cons_zero, List.set_cons_succ]
          refine wpAnyT_done (by kernel_rfl) ?_ _
          have HF := Lib.hid (hL4.sub (List.Sublist.cons_cons _ (List.Sublist.cons_cons _ (List.nil_sublist _))))
          clear hS hL0 hL1 hL2 hL3 hL4
          go_wp2_with fail
          go_roundw
          case rel =>
           refine ⟨k + 1, had ++ [(a, b)], by omega, by go_num, ?_, by rw [List.length_append, List.length_singleton, ← HH0.out]; omega, by rw [List.length_append, List.length_singleton, ← HH0.out]; omega, HTK.out HBK.out⟩
           rw [List.map_append, List.map_append]
           exact HF.out
          case measure => simp [intOf]; omega
     ·have t2' : to.toList.isEmpty = false := by cases h : to.toList with | nil => exact absurd h t2 | cons _ _ => rfl
      cases t3 : Op.bytesLess a.toList to.toList with
      | true =>
       have hbk : betK fr to a = true := by unfold betK geB; rw [t1, t2', t3]; rfl
       have HBK := Lib.hid hbk
       clear hbk
       go_wp2_with fail
       clear c0 c1 z1 z2
       refine wp_region_any (by kernel_rfl) ?_
       change wpAny _ _ _ _ _ _ _ (World.drew _)
       refine wpAny_of_T (C := fun (w' : World) => (w'.cell? ⟨x, 0, none⟩ = some (.slice (some ⟨g, 0, none⟩) n cap) ∧ w'.cell? ⟨x, 1, none⟩ = some (.slice (some ⟨g2, 0, none⟩) n cap2)) ∧ w'.cell? ⟨g, k, none⟩ = some (.string a) ∧ w'.cell? ⟨g2, k, none⟩ = some (.string b)) (T := []) _ _ _ _ ?_
       have hS : (fun (w' : World) => (w'.cell? ⟨x, 0, none⟩ = some (.slice (some ⟨g, 0, none⟩) n cap) ∧ w'.cell? ⟨x, 1, none⟩ = some (.slice (some ⟨g2, 0, none⟩) n cap2)) ∧ w'.cell? ⟨g, k, none⟩ = some (.string a) ∧ w'.cell? ⟨g2, k, none⟩ = some (.string b)) _ := HC.out _ _ (Live.drew HLV.out)
       have hL0 := Live.drew HLV.out
       generalize World.drew wo = u0 at hL0 hS ⊢
       try simp only [Act.put, List.setIfInBounds_toArray, List.set_cons_zero, List.set_cons_succ]
       refine wpAnyT_take (i := 0) (oi := ⟨some 55, _, _, _, _, _⟩) (v := ?_) rfl (by kernel_rfl) (by kernel_rfl) (by kernel_rfl) (by kernel_rfl) (fun _ _ _ h => h) (Or.inl ⟨by simp only [Region.wanted], ?_⟩) hS ?_
       rotate_left
       ·intro wz hSw
        clear hSw
        go_simp
        first | done | with_reducible rfl
       try simp only [Act.put, List.setIfInBounds_toArray, List.set_cons_zero, List.set_cons_succ]
       refine wpAnyT_take (i := 1) (oi := ⟨some 56, _, _, _, _, _⟩) (v := ?_) rfl (by kernel_rfl) (by kernel_rfl) (by kernel_rfl) (by kernel_rfl) (fun _ _ _ h => h) (Or.inl ⟨by simp only [Region.wanted], ?_⟩) hS ?_
       rotate_left
       ·intro wz hSw
        clear hSw
        go_simp
        first | done | with_reducible rfl
       try simp only [Act.put, List.setIfInBounds_toArray, List.set_cons_zero, List.set_cons_succ]
       refine wpAnyT_take (i := 2) (oi := ⟨some 57, _, _, _, _, _⟩) (v := ?_) rfl (by kernel_rfl) (by kernel_rfl) (by kernel_rfl) (by kernel_rfl) (fun _ _ _ h => h) (Or.inl ⟨by simp only [Region.wanted], ?_⟩) hS ?_
       rotate_left
       ·intro wz hSw
        clear hSw
        go_simp
        first | done | with_reducible rfl
       try simp only [Act.put, List.setIfInBounds_toArray, List.set_cons_zero, List.set_cons_succ]
       refine wpAnyT_take (i := 3) (oi := ⟨some 58, _, _, _, _, _⟩) (v := ?_) rfl (by kernel_rfl) (by kernel_rfl) (by kernel_rfl) (by kernel_rfl) (fun _ _ _ h => h) (Or.inl ⟨by simp only [Region.wanted], ?_⟩) hS ?_
       rotate_left
       ·intro wz hSw
        clear hSw
        go_simp
        first | done | with_reducible rfl
       try simp only [Act.put, List.setIfInBounds_toArray, List.set_cons_zero, List.set_cons_succ]
       refine wpAnyT_take (i := 4) (oi := ⟨some 59, _, _, _, _, _⟩) (v := ?_) rfl (by kernel_rfl) (by kernel_rfl) (by kernel_rfl) (by kernel_rfl) (fun _ _ _ h => h) (Or.inl ⟨by simp only [Region.wanted], ?_⟩) hS ?_
       rotate_left
       ·intro wz hSw
        (try dsimp only at hSw)
        (try go_split_ands)
        go_simp
        first | done | with_reducible rfl
       try simp only [Act.put, List.setIfInBounds_toArray, List.set_cons_zero, List.set_cons_succ]
       refine wpAnyT_take (i := 5) (oi := ⟨some 60, _, _, _, _, _⟩) (v := ?_) rfl (by kernel_rfl) (by kernel_rfl) (by kernel_rfl) (by kernel_rfl) (fun _ _ _ h => h) (Or.inl ⟨by simp only [Region.wanted], ?_⟩) hS ?_
       rotate_left
       ·intro wz hSw
        clear hSw
        go_simp
        first | done | with_reducible rfl
       try simp only [Act.put, List.setIfInBounds_toArray, List.set_cons_zero, List.set_cons_succ]
       refine wpAnyT_take (i := 6) (oi := ⟨some 61, _, _, _, _, _⟩) (v := ?_) rfl (by kernel_rfl) (by kernel_rfl) (by kernel_rfl) (by kernel_rfl) (fun _ _ _ h => h) (Or.inl ⟨by simp only [Region.wanted], ?_⟩) hS ?_
       rotate_left
       ·intro wz hSw
        clear hSw
        go_simp
        first | done | with_reducible rfl
       try simp only [Act.put, List.setIfInBounds_toArray, List.set_cons_zero, List.set_cons_succ]
       refine wpAnyT_take (i := 7) (oi := ⟨some 62, _, _, _, _, _⟩) (v := ?_) rfl (by kernel_rfl) (by kernel_rfl) (by kernel_rfl) (by kernel_rfl) (fun _ _ _ h => h) (Or.inl ⟨by simp only [Region.wanted], ?_⟩) hS ?_
       rotate_left
       ·intro wz hSw
        (try dsimp only at hSw)
        (try go_split_ands)
        go_simp
        first | done | with_reducible rfl
       try simp only [Act.put, List.setIfInBounds_toArray, List.set_cons_zero, List.set_cons_succ]
       refine wpAnyT_take (i := 10) (oi := ⟨some 65, _, _, _, _, _⟩) (v := ?_) rfl (by kernel_rfl) (by kernel_rfl) (by kernel_rfl) (by kernel_rfl) (fun _ _ _ h => h) (Or.inl ⟨by simp only [Region.wanted], ?_⟩) hS ?_
       rotate_left
       ·intro wz hSw
        clear hSw
        go_simp
        first | done | with_reducible rfl
       try simp only [Act.put, List.setIfInBounds_toArray, List.set_cons_zero, List.set_cons_succ]
       refine wpAnyT_take (i := 11) (oi := ⟨some 66, _, _, _, _, _⟩) (v := ?_) rfl (by kernel_rfl) (by kernel_rfl) (by kernel_rfl) (by kernel_rfl) (fun _ _ _ h => h) (Or.inl ⟨by simp only [Region.wanted], ?_⟩) hS ?_
       rotate_left
       ·intro wz hSw
        clear hSw
        go_simp
        first | done | with_reducible rfl
       try simp only [Act.put, List.setIfInBounds_toArray, List.set_cons_zero, List.set_cons_succ]
       refine wpAnyT_take (i := 12) (oi := ⟨some 67, _, _, _, _, _⟩) (v := ?_) rfl (by kernel_rfl) (by kernel_rfl) (by kernel_rfl) (by kernel_rfl) (fun _ _ _ h => h) (Or.inl ⟨by simp only [Region.wanted], ?_⟩) hS ?_
       rotate_left
       ·intro wz hSw
        clear hSw
        go_simp
        first | done | with_reducible rfl
       try simp only [Act.put, List.setIfInBounds_toArray, List.set_cons_zero, List.set_cons_succ]
       refine wpAnyT_take (i := 13) (oi := ⟨some 68, _, _, _, _, _⟩) (v := ?_) rfl (by kernel_rfl) (by kernel_rfl) (by kernel_rfl) (by kernel_rfl) (fun _ _ _ h => h) (Or.inl ⟨by simp only [Region.wanted], ?_⟩) hS ?_
       rotate_left
       ·intro wz hSw
        clear hSw
        go_simp
        first | done | with_reducible rfl
       try simp only [Act.put, List.setIfInBounds_toArray, List.set_cons_zero, List.set_cons_succ]
       refine wpAnyT_take (i := 14) (oi := ⟨some 69, _, _, _, _, _⟩) (v := ?_) rfl (by kernel_rfl) (by kernel_rfl) (by kernel_rfl) (by kernel_rfl) (fun _ _ _ h => h) (Or.inl ⟨by simp only [Region.wanted], ?_⟩) hS ?_
       rotate_left
       ·intro wz hSw
        (try dsimp only at hSw)
        (try go_split_ands)
        go_simp
        first | done | with_reducible rfl
       try simp only [Act.put, List.setIfInBounds_toArray, List.set_cons_zero, List.set_cons_succ]
       refine wpAnyT_take (i := 15) (oi := ⟨some 70, _, _, _, _, _⟩) (v := ?_) rfl (by kernel_rfl) (by kernel_rfl) (by kernel_rfl) (by kernel_rfl) (fun _ _ _ h => h) (Or.inl ⟨by simp only [Region.wanted], ?_⟩) hS ?_
       rotate_left
       ·intro wz hSw
        clear hSw
        go_simp
        first | done | with_reducible rfl
       try simp only [Act.put, List.setIfInBounds_toArray, List.set_cons_zero, List.set_cons_succ]
       refine wpAnyT_take (i := 16) (oi := ⟨some 71, _, _, _, _, _⟩) (v := ?_) rfl (by kernel_rfl) (by kernel_rfl) (by kernel_rfl) (by kernel_rfl) (fun _ _ _ h => h) (Or.inl ⟨by simp only [Region.wanted], ?_⟩) hS ?_
       rotate_left
       ·intro wz hSw
        clear hSw
        go_simp
        first | done | with_reducible rfl
       try simp only [Act.put, List.setIfInBounds_toArray, List.set_cons_zero, List.set_cons_succ]
       refine wpAnyT_take (i := 17) (oi := ⟨some 72, _, _, _, _, _⟩) (v := ?_) rfl (by kernel_rfl) (by kernel_rfl) (by kernel_rfl) (by kernel_rfl) (fun _ _ _ h => h) (Or.inl ⟨by simp only [Region.wanted], ?_⟩) hS ?_
       rotate_left
       ·intro wz hSw
        (try dsimp only at hSw)
        (try go_split_ands)
        go_simp
        first | done | with_reducible rfl
       try simp only [Act.put, List.setIfInBounds_toArray, List.set_cons_zero, List.set_cons_succ]
       refine wpAnyT_ready (rs := [8, 18]) (by kernel_rfl) (by simp) ?_
       refine AllReadyT.cons (o := ⟨some 63, _, _, _, _, _⟩) rfl (fun KK hK => ?_) (AllReadyT.cons (o := ⟨some 73, _, _, _, _, _⟩) rfl (fun KK hK => ?_) (AllReadyT.nil))
       ·have hL1 := hL0.text (a)
        go_simp
        generalize World.alloc u0 _ = u1 at hL1 ⊢
        refine hK.out _ _ (HC.out _ _ hL1) (fun hS => ?_)
        clear hK KK
        try simp only [Act.put, List.setIfInBounds_toArray, List.set_cons_zero, List.set_cons_succ]
        refine wpAnyT_ready (rs := [9, 18]) (by kernel_rfl) (by simp) ?_
        refine AllReadyT.cons (o := ⟨some 64, _, _, _, _, _⟩) rfl (fun KK hK => ?_) (AllReadyT.cons (o := ⟨some 73, _, _, _, _, _⟩) rfl (fun KK hK => ?_) (AllReadyT.nil))
        ·refine step_append_ss rfl _ _ rfl _ hL1.low (.slice a1 h0 p1) (had.map Prod.fst) rfl hL1.at1 (.slice (some ⟨u0.heap.size, 0, none⟩) 1 1) ([a]) rfl (hL1.at3.ss) (by have e1 := HLEN.out; simp; omega) ?_
         intro kv2 u2 ho hg hq
         have hL2 := hL1.grow1 _ _ ho hg hq
         clear ho hg hq
         refine hK.out _ _ (HC.out _ _ hL2) (fun hS => ?_)
         clear hK KK
         try simp only [Act.put, List.setIfInBounds_toArray, List.set_cons_zero, List.set_cons_succ]
         refine wpAnyT_ready (rs := [18]) (by kernel_rfl) (by simp) ?_
         refine AllReadyT.cons (o := ⟨some 73, _, _, _, _, _⟩) rfl (fun KK hK => ?_) (AllReadyT.nil)
         ·have hL3 := hL2.text (b)
          go_simp
          generalize World.alloc u2 _ = u3 at hL3 ⊢
          refine hK.out _ _ (HC.out _ _ hL3) (fun hS => ?_)
          clear hK KK
          try simp only [Act.put, List.setIfInBounds_toArray, List.set_cons_zero, List.set_cons_succ]
          refine wpAnyT_ready (rs := [19]) (by kernel_rfl) (by simp) ?_
          refine AllReadyT.cons (o := ⟨some 74, _, _, _, _, _⟩) rfl (fun KK hK => ?_) (AllReadyT.nil)
          ·refine step_append_ss rfl _ _ rfl _ hL3.low (u12) (had.map Prod.snd) rfl hL3.at2 (.slice (some ⟨u2.heap.size, 0, none⟩) 1 1) ([b]) rfl (hL3.at4.ss) (by have e1 := HLEN.out; simp; omega) ?_
           intro vv4 u4 ho hg hq
           have hL4 := hL3.grow2 _ _ ho hg hq
           clear ho hg hq
           refine hK.out _ _ (HC.out _ _ hL4) (fun hS => ?_)
           clear hK KK
           try simp only [Act.put, List.setIfInBounds_toArray, List.set_cons_zero, List.set_cons_succ]
           refine wpAnyT_take (i := 20) (oi := ⟨some 11, _, _, _, _, _⟩) (v := ?_) rfl (by kernel_rfl) (by kernel_rfl) (by kernel_rfl) (by kernel_rfl) (fun _ _ _ h => h) (Or.inl ⟨by simp only [Region.wanted], ?_⟩) hS ?_
           rotate_left
           ·intro wz hSw
            clear hSw
            go_simp
            first | done | with_reducible rfl
           try simp only [Act.put, List.setIfInBounds_toArray, List.set_cons_zero, List.set_cons_succ]
           refine wpAnyT_take (i := 21) (oi := ⟨some 12, _, _, _, _, _⟩) (v := ?_) rfl (by kernel_rfl) (by kernel_rfl) (by kernel_rfl) (by kernel_rfl) (fun _ _ _ h => h) (Or.inl ⟨by simp only [Region.wanted], ?_⟩) hS ?_
           rotate_left
           ·intro wz hSw
            clear hSw
            go_simp
            first | done | with_reducible rfl
           try simp only [Act.put, List.setIfInBounds_toArray, List.set_cons_zero, List.set_cons_succ]
           refine wpAnyT_done (by kernel_rfl) ?_ _
           have HF := Lib.hid (hL4.sub (List.Sublist.cons_cons _ (List.Sublist.cons_cons _ (List.nil_sublist _))))
           clear hS hL0 hL1 hL2 hL3 hL4
           go_wp2_with fail
           go_roundw
           case rel =>
            refine ⟨k + 1, had ++ [(a, b)], by omega, by go_num, ?_, by rw [List.length_append, List.length_singleton, ← HH0.out]; omega, by rw [List.length_append, List.length_singleton, ← HH0.out]; omega, HTK.out HBK.out⟩
            rw [List.map_append, List.map_append]
            exact HF.out
           case measure => simp [intOf]; omega
        ·have hL2 := hL1.text (b)
         go_simp
         generalize World.alloc u1 _ = u2 at hL2 ⊢
         refine hK.out _ _ (HC.out _ _ hL2) (fun hS => ?_)
         clear hK KK
         try simp only [Act.put, List.setIfInBounds_toArray, List.set_cons_zero, List.set_cons_succ]
         refine wpAnyT_ready (rs := [9]) (by kernel_rfl) (by simp) ?_
         refine AllReadyT.cons (o := ⟨some 64, _, _, _, _, _⟩) rfl (fun KK hK => ?_) (AllReadyT.nil)
         ·refine step_append_ss rfl _ _ rfl _ hL2.low (.slice a1 h0 p1) (had.map Prod.fst) rfl hL2.at1 (.slice (some ⟨u0.heap.size, 0, none⟩) 1 1) ([a]) rfl (hL2.at3.ss) (by have e1 := HLEN.out; simp; omega) ?_
          intro kv3 u3 ho hg hq
          have hL3 := hL2.grow1 _ _ ho hg hq
          clear ho hg hq
          refine hK.out _ _ (HC.out _ _ hL3) (fun hS => ?_)
          clear hK KK
          try simp only [Act.put, List.setIfInBounds_toArray, List.set_cons_zero, List.set_cons_succ]
          refine wpAnyT_ready (rs := [19]) (by kernel_rfl) (by simp) ?_
          refine AllReadyT.cons (o := ⟨some 74, _, _, _, _, _⟩) rfl (fun KK hK => ?_) (AllReadyT.nil)
          ·refine step_append_ss rfl _ _ rfl _ hL3.low (u12) (had.map Prod.snd) rfl hL3.at2 (.slice (some ⟨u1.heap.size, 0, none⟩) 1 1) ([b]) rfl (hL3.at4.ss) (by have e1 := HLEN.out; simp; omega) ?_
           intro vv4 u4 ho hg hq
           have hL4 := hL3.grow2 _ _ ho hg hq
           clear ho hg hq
           refine hK.out _ _ (HC.out _ _ hL4) (fun hS => ?_)
           clear hK KK
           try simp only [Act.put, List.setIfInBounds_toArray, List.set_cons_zero, List.set_cons_succ]
           refine wpAnyT_take (i := 20) (oi := ⟨some 11, _, _, _, _, _⟩) (v := ?_) rfl (by kernel_rfl) (by kernel_rfl) (by kernel_rfl) (by kernel_rfl) (fun _ _ _ h => h) (Or.inl ⟨by simp only [Region.wanted], ?_⟩) hS ?_
           rotate_left
           ·intro wz hSw
            clear hSw
            go_simp
            first | done | with_reducible rfl
           try simp only [Act.put, List.setIfInBounds_toArray, List.set_cons_zero, List.set_cons_succ]
           refine wpAnyT_take (i := 21) (oi := ⟨some 12, _, _, _, _, _⟩) (v := ?_) rfl (by kernel_rfl) (by kernel_rfl) (by kernel_rfl) (by kernel_rfl) (fun _ _ _ h => h) (Or.inl ⟨by simp only [Region.wanted], ?_⟩) hS ?_
           rotate_left
           ·intro wz hSw
            clear hSw
            go_simp
            first | done | with_reducible rfl
           try simp only [Act.put, List.setIfInBounds_toArray, List.set_cons_zero, List.set_cons_succ]
           refine wpAnyT_done (by kernel_rfl) ?_ _
           have HF := Lib.hid (hL4.sub (List.Sublist.cons_cons _ (List.Sublist.cons_cons _ (List.nil_sublist _))))
           clear hS hL0 hL1 hL2 hL3 hL4
           go_wp2_with fail
           go_roundw
           case rel =>
            refine ⟨k + 1, had ++ [(a, b)], by omega, by go_num, ?_, by rw [List.length_append, List.length_singleton, ← HH0.out]; omega, by rw [List.length_append, List.length_singleton, ← HH0.out]; omega, HTK.out HBK.out⟩
            rw [List.map_append, List.map_append]
            exact HF.out
           case measure => simp [intOf]; omega
       ·have hL1 := hL0.text (b)
        go_simp
        generalize World.alloc u0 _ = u1 at hL1 ⊢
        refine hK.out _ _ (HC.out _ _ hL1) (fun hS => ?_)
        clear hK KK
        try simp only [Act.put, List.setIfInBounds_toArray, List.set_cons_zero, List.set_cons_succ]
        refine wpAnyT_ready (rs := [8]) (by kernel_rfl) (by simp) ?_
        refine AllReadyT.cons (o := ⟨some 63, _, _, _, _, _⟩) rfl (fun KK hK => ?_) (AllReadyT.nil)
        ·have hL2 := hL1.text (a)
         go_simp
         generalize World.alloc u1 _ = u2 at hL2 ⊢
         refine hK.out _ _ (HC.out _ _ hL2) (fun hS => ?_)
         clear hK KK
         try simp only [Act.put, List.setIfInBounds_toArray, List.set_cons_zero, List.set_cons_succ]
         refine wpAnyT_ready (rs := [9]) (by kernel_rfl) (by simp) ?_
         refine AllReadyT.cons (o := ⟨some 64, _, _, _, _, _⟩) rfl (fun KK hK => ?_) (AllReadyT.nil)
         ·refine step_append_ss rfl _ _ rfl _ hL2.low (.slice a1 h0 p1) (had.map Prod.fst) rfl hL2.at1 (.slice (some ⟨u1.heap.size, 0, none⟩) 1 1) ([a]) rfl (hL2.at4.ss) (by have e1 := HLEN.out; simp; omega) ?_
          intro kv3 u3 ho hg hq
          have hL3 := hL2.grow1 _ _ ho hg hq
          clear ho hg hq
          refine hK.out _ _ (HC.out _ _ hL3) (fun hS => ?_)
          clear hK KK
          try simp only [Act.put, List.setIfInBounds_toArray, List.set_cons_zero, List.set_cons_succ]
          refine wpAnyT_ready (rs := [19]) (by kernel_rfl) (by simp) ?_
          refine AllReadyT.cons (o := ⟨some 74, _, _, _, _, _⟩) rfl (fun KK hK => ?_) (AllReadyT.nil)
          ·refine step_append_ss rfl _ _ rfl _ hL3.low (u12) (had.map Prod.snd) rfl hL3.at2 (.slice (some ⟨u0.heap.size, 0, none⟩) 1 1) ([b]) rfl (hL3.at3.ss) (by have e1 := HLEN.out; simp; omega) ?_
           intro vv4 u4 ho hg hq
           have hL4 := hL3.grow2 _ _ ho hg hq
           clear ho hg hq
           refine hK.out _ _ (HC.out _ _ hL4) (fun hS => ?_)
           clear hK KK
           try simp only [Act.put, List.setIfInBounds_toArray, List.set_cons_zero, List.set_cons_succ]
           refine wpAnyT_take (i := 20) (oi := ⟨some 11, _, _, _, _, _⟩) (v := ?_) rfl (by kernel_rfl) (by kernel_rfl) (by kernel_rfl) (by kernel_rfl) (fun _ _ _ h => h) (Or.inl ⟨by simp only [Region.wanted], ?_⟩) hS ?_
           rotate_left
           ·intro wz hSw
            clear hSw
            go_simp
            first | done | with_reducible rfl
           try simp only [Act.put, List.setIfInBounds_toArray, List.set_cons_zero, List.set_cons_succ]
           refine wpAnyT_take (i := 21) (oi := ⟨some 12, _, _, _, _, _⟩) (v := ?_) rfl (by kernel_rfl) (by kernel_rfl) (by kernel_rfl) (by kernel_rfl) (fun _ _ _ h => h) (Or.inl ⟨by simp only [Region.wanted], ?_⟩) hS ?_
           rotate_left
           ·intro wz hSw
            clear hSw
            go_simp
            first | done | with_reducible rfl
           try simp only [Act.put, List.setIfInBounds_toArray, List.set_cons_zero, List.set_cons_succ]
           refine wpAnyT_done (by kernel_rfl) ?_ _
           have HF := Lib.hid (hL4.sub (List.Sublist.cons_cons _ (List.Sublist.cons_cons _ (List.nil_sublist _))))
           clear hS hL0 hL1 hL2 hL3 hL4
           go_wp2_with fail
           go_roundw
           case rel =>
            refine ⟨k + 1, had ++ [(a, b)], by omega, by go_num, ?_, by rw [List.length_append, List.length_singleton, ← HH0.out]; omega, by rw [List.length_append, List.length_singleton, ← HH0.out]; omega, HTK.out HBK.out⟩
            rw [List.map_append, List.map_append]
            exact HF.out
           case measure => simp [intOf]; omega
      | false =>
       have hbk : betK fr to a = false := by unfold betK geB; rw [t1, t2', t3]; rfl
       have HBK := Lib.hid hbk
       clear hbk
       go_wp2_with fail
       go_roundw
       case rel => exact ⟨k + 1, had, by omega, by go_num, HLV.out, by rw [← HH0.out]; exact hm1, by rw [← HH0.out]; omega, HSK.out HBK.out⟩
       case measure => simp [intOf]; omega
   ·obtain rfl : h0 = m := by omega
    have hfin : R = had := by rw [hRk, ← hh0, Nat.sub_self, List.take_zero, List.append_nil]
    have HFIN := Lib.hid hfin
    clear hlv hbel hRk hh0 hfin d1 d2 hz hm0
    go_wp2_with fail
    go_ret3
    refine ⟨_, _, rfl, ?_, ?_, HBEL.out⟩
    ·rw [HFIN.out]; exact HLV.out.at1
    ·rw [HFIN.out]; exact HLV.out.at2
  ·obtain rfl : k = n := by omega
   have hfin : R = had := by rw [hRk, List.drop_eq_nil_of_le (by rw [HZ.out]; exact Nat.le_refl _)]; simp
   have HFIN := Lib.hid hfin
   clear hlv hbel hRk hh0 hfin hm0
   go_wp2_with fail
   go_ret3
   refine ⟨_, _, rfl, ?_, ?_, HBEL.out⟩
   ·rw [HFIN.out]; exact HLV.out.at1
   ·rw [HFIN.out]; exact HLV.out.at2
end Go.Proofs.Ytpfjbcfnpfgidaa
