/- Several texts in one: NoteImplD, NoteImplE, NoteImplF. -/
import Derived.Test.YtdjifickdcnacaaDoorNNoteLib
import Derived.Test.YtdjifickdcnacaaDoorNTextWalk
import Derived.Test.YtdjifickdcnacaaDoorNCloneW
import Derived.Laws.EntriesVeiled
import Derived.Test.YtdjifickdcnacaaDoorNNoteSpecB
import Derived.Deep.RegionLaw
section
namespace Go.Proofs.YtdjifickdcnacaaDoor
open Go.RowKit
set_option linter.unusedVariables false
set_option linter.unusedSimpArgs false
set_option maxRecDepth 20000
set_option maxHeartbeats 800000 in
theorem gnum_any {ph : Nat} (h : ByteArray) (hs : h.size <= 1048576) (w : World) (hk : w.heap[ph]? = some (.cells #[.string h] 9)) (hE : ∀ W,Below ph w W -> NEnv W) :
  Calls Tryd.prog 105 #[.pointer (some ⟨ph,0,none⟩)] w fun e w' => e = .returned (.int .i64 (numH h)) ∧ w'.heap[ph]? = some (.cells #[.string (nxtH h)] 9) ∧ Aside ph (ph + 1) w w' := by
 have HK := hide hk
 have HE := hide hE
 have c0 := note_one hk
 have hlt : ph < w.heap.size := (Array.getElem?_eq_some_iff.1 hk).1
 clear hk hE
 go_enter Tryd.func105,Tryd.ntmps105
 go_wp2_with fail
 refine (cutN_any h ⟨#[32]⟩ hs w (HE.out w (Below.refl _ _))).mono ?_
 rintro e w1 ⟨rfl,b1⟩
 have K1 := hide (block_on HK.out b1)
 have HA1 : Hid (Aside ph (ph + 1) w (w1.setCell ⟨ph,0,none⟩ (.string (nxtH h)))) := (aside_of_below b1).setCell (p := ⟨ph,0,none⟩) (Nat.le_refl _) (Nat.lt_succ_self _) _
 have K2 : Hid ((w1.setCell ⟨ph,0,none⟩ (.string (nxtH h))).heap[ph]? = some (.cells #[.string (nxtH h)] 9)) := by
  show _ = _
  have := set_block K1.out 0 (.string (nxtH h)) (by simp)
  simpa using this
 have c1 := note_one K1.out
 have f1 := four_frozen K1.out 0
 obtain ⟨X,hX⟩ : ∃ X,X = mkB (Lib.cut h.data.toList [32]).1 := ⟨_,rfl⟩
 obtain ⟨Y,hY⟩ : ∃ Y,Y = nxtH h := ⟨_,rfl⟩
 obtain ⟨Z,hZ⟩ : ∃ Z,Z = (Lib.cut h.data.toList [32]).2.2 := ⟨_,rfl⟩
 have hXs : X.size <= 1048576 := by
  rw [hX,mkB_size]
  have := (cut_len h.data.toList [32]).1
  have e : h.data.toList.length = h.size := by simp
  omega
 have HNX : Hid (numI X.data.toList = numH h) := by show _ = _; rw [hX,mkB_list]; rfl
 have e1 : mkB (Lib.cut h.data.toList ((⟨#[32]⟩ : ByteArray).data.toList)).1 = X := hX.symm
 have e2 : mkB (Lib.cut h.data.toList ((⟨#[32]⟩ : ByteArray).data.toList)).2.1 = Y := by rw [hY]; rfl
 have e3 : (Lib.cut h.data.toList ((⟨#[32]⟩ : ByteArray).data.toList)).2.2 = Z := hZ.symm
 rw [e1,e2,e3]
 rw [<- hY] at HA1 K2
 have HYE := hide hY
 clear e1 e2 e3 hX hY hZ b1 c0 K1
 obtain ⟨w2,hw2⟩ : ∃ w2,w2 = w1.setCell ⟨ph,0,none⟩ (.string Y) := ⟨_,rfl⟩
 rw [<- hw2] at HA1 K2
 go_upto_region 3 with fail
 rw [<- hw2]
 clear hw2 c1 f1
 go_wp2_with fail
 refine (parseN_any X hXs w2 (HE.out w2 (HA1.out.below (B := ph) (Nat.le_refl _) (by omega)))).mono ?_
 rw [HNX.out]
 rintro e w3 ⟨⟨er,rfl⟩,b3⟩
 have K3 := hide (block_on K2.out b3)
 have HA3 := hide (HA1.out.trans (aside_of_below b3))
 clear b3
 go_wp2_with fail
 go_ret
 exact ⟨rfl,by rw [<- HYE.out]; exact K3.out,HA3.out⟩
set_option maxHeartbeats 800000 in
theorem gtext_any {ph pn : Nat} (h b : ByteArray) (hs : h.size <= 1048576) (hb : b.size <= 1048576) (w : World) (hk : w.heap[ph]? = some (.cells #[.string h] 9)) (hkb : w.heap[ph + 1]? = some (.cells #[.string b] 9)) (hf : w.heap[pn]? = some (.cells #[.func (.func 105) #[] #[.pointer (some ⟨ph,0,none⟩)]] 127)) (hE : ∀ W,Below ph w W -> NEnv W) :
  Calls Tryd.prog 107 #[.pointer (some ⟨pn,0,none⟩),.pointer (some ⟨ph + 1,0,none⟩)] w fun e w' => e = .returned (.string (txtH h b)) ∧ w'.heap[ph]? = some (.cells #[.string (nxtH h)] 9) ∧ w'.heap[ph + 1]? = some (.cells #[.string (bodH h b)] 9) ∧ Aside ph (ph + 1 + 1) w w' := by
 have c0 := note_one hf
 have hlt : ph + 1 < w.heap.size := (Array.getElem?_eq_some_iff.1 hkb).1
 have HKB := hide hkb
 go_enter Tryd.func107,Tryd.ntmps107
 go_wp2_with fail
 refine (gnum_any h hs w hk hE).mono ?_
 rintro e w1 ⟨rfl,k1,a1⟩
 have K1 := hide k1
 have B1 : Hid (w1.heap[ph + 1]? = some (.cells #[.string b] 9)) := (a1.block _ hlt (.inr (by omega))).trans HKB.out
 have HA1 : Hid (Aside ph (ph + 1 + 1) w w1) := ⟨a1.1,a1.2,a1.3,a1.4,fun k hk' ho => a1.block k hk' (by omega)⟩
 have HZ1 : Hid (ph + 1 < w1.heap.size) := (Array.getElem?_eq_some_iff.1 B1.out).1
 clear k1 a1 c0 hk hkb hf HKB
 have c1 := note_one B1.out
 have f1 := four_frozen B1.out 0
 obtain ⟨z,hz⟩ : ∃ z,z = numH h := ⟨_,rfl⟩
 have HZ := hide hz
 rw [<- hz]
 clear hz
 have hb63 : b.size <= 9223372036854775807 := by omega
 by_cases hz0 : z < 0
 ·have HT : Hid (txtH h b = ⟨#[]⟩ ∧ bodH h b = b) := by unfold txtH bodH badT; rw [<- HZ.out,decide_eq_true hz0]; exact ⟨rfl,rfl⟩
  go_wp2_with fail
  go_ret
  exact ⟨by rw [HT.out.1]; rfl,K1.out,by rw [HT.out.2]; exact B1.out,HA1.out⟩
 ·by_cases hzb : (b.size : Int) < z
  ·have HT : Hid (txtH h b = ⟨#[]⟩ ∧ bodH h b = b) := by unfold txtH bodH badT; rw [<- HZ.out,decide_eq_true hzb,Bool.or_true]; exact ⟨rfl,rfl⟩
   go_wp2_with fail
   go_ret
   exact ⟨by rw [HT.out.1]; rfl,K1.out,by rw [HT.out.2]; exact B1.out,HA1.out⟩
  ·obtain ⟨Z,rfl⟩ : ∃ Z : Nat,z = (Z : Int) := ⟨z.toNat,by omega⟩
   have HT : Hid (txtH h b = b.extract 0 Z ∧ bodH h b = b.extract Z b.size) := by unfold txtH bodH badT; rw [<- HZ.out,decide_eq_false hz0,decide_eq_false hzb]; exact ⟨rfl,rfl⟩
   have hZb : (Z : Int) <= (b.size : Int) := by omega
   have hZn : ¬ (b.size : Int) < (Z : Int) := by omega
   clear hz0 hzb
   obtain ⟨X,hX⟩ : ∃ X,X = b.extract 0 Z := ⟨_,rfl⟩
   have hXs : X.size <= 1048576 := by rw [hX]; simp only [ByteArray.size_extract]; omega
   go_wp2_with fail
   rw [<- hX]
   refine (cloneT_any X w1 hXs).mono ?_
   rintro e w2 ⟨rfl,b2⟩
   have K2 := hide (block_on K1.out b2)
   have B2 := hide (block_on B1.out b2)
   have HA2 := hide (HA1.out.trans (aside_of_below b2))
   clear b2 c1 f1 K1 B1 HA1
   have c2 := note_one B2.out
   have f2 := four_frozen B2.out 0
   have K3 : Hid ((w2.setCell ⟨ph + 1,0,none⟩ (.string (b.extract Z b.size))).heap[ph]? = some (.cells #[.string (nxtH h)] 9)) := set_other K2.out (by omega) _
   have B3 : Hid ((w2.setCell ⟨ph + 1,0,none⟩ (.string (b.extract Z b.size))).heap[ph + 1]? = some (.cells #[.string (b.extract Z b.size)] 9)) := by
    show _ = _
    have := set_block B2.out 0 (.string (b.extract Z b.size)) (by simp)
    simpa using this
   have HA3 : Hid (Aside ph (ph + 1 + 1) w (w2.setCell ⟨ph + 1,0,none⟩ (.string (b.extract Z b.size)))) := HA2.out.setCell (p := ⟨ph + 1,0,none⟩) (by simp) (by simp) _
   have HX := hide hX
   clear hX
   go_wp2_with fail
   go_ret
   exact ⟨by rw [HT.out.1,<- HX.out]; rfl,K3.out,by rw [HT.out.2]; exact B3.out,HA3.out⟩
end Go.Proofs.YtdjifickdcnacaaDoor
end

section
namespace Go.Proofs.YtdjifickdcnacaaDoor
open Go.RowKit
set_option linter.unusedVariables false
set_option linter.unusedSimpArgs false
set_option maxRecDepth 20000
structure GSt (w : World) (P : Nat) (h b : ByteArray) (k tt e s a : Int) (tx : ByteArray) (v : Value) (ts : List ByteArray) (W : World) : Prop where
 res : W.heap[w.heap.size]? = some (.cells #[.int .i64 0,.int .i64 0,.int .i64 0,.int .i64 0,.int .i64 0,.string ⟨#[]⟩,.slice none 0 0] 26)
 head : W.heap[P]? = some (.cells #[.string h] 9)
 body : W.heap[P + 1]? = some (.cells #[.string b] 9)
 fn : W.heap[P + 1 + 1]? = some (.cells #[.func (.func 105) #[] #[.pointer (some ⟨P,0,none⟩)]] 127)
 note : W.heap[P + 1 + 1 + 1]? = some (.cells #[.int .i64 k,.int .i64 tt,.int .i64 e,.int .i64 s,.int .i64 a,.string tx,v] 26)
 own : TxOwn (P + 4) W v ts
 below : Below w.heap.size w W
 far : w.heap.size + 1 <= P
section
variable {w : World} {P : Nat} {h b : ByteArray} {k tt e s a : Int} {tx : ByteArray} {v : Value} {ts : List ByteArray} {W W' : World}
theorem GSt.env (g : GSt w P h b k tt e s a tx v ts W) (hE : NEnv w) : ∀ W',Below P W W' -> NEnv W' := fun W' hb => hE.here (g.below.trans (hb.mono (by have := g.far; omega)))
theorem tx_aside {B l r : Nat} (ho : TxOwn B W v ts) (hA : Aside l r W W') (hr : r <= B) : TxOwn B W' v ts := by
 refine ⟨ho.1,?_⟩
 rcases ho.2 with h1 | ⟨g,cap,cur,e1,h2,hg,h3⟩
 ·exact .inl h1
 ·exact .inr ⟨g,cap,cur,e1,h2,(hA.block g (Array.getElem?_eq_some_iff.1 hg).1 (.inr (by omega))).trans hg,h3⟩
theorem GSt.text (g : GSt w P h b k tt e s a tx v ts W) {h' b' : ByteArray} (hA : Aside P (P + 1 + 1) W W') (k1 : W'.heap[P]? = some (.cells #[.string h'] 9)) (k2 : W'.heap[P + 1]? = some (.cells #[.string b'] 9)) : GSt w P h' b' k tt e s a tx v ts W' :=
 ⟨(hA.block _ (Array.getElem?_eq_some_iff.1 g.res).1 (.inl (by have := g.far; omega))).trans g.res,k1,k2,(hA.block _ (Array.getElem?_eq_some_iff.1 g.fn).1 (.inr (by omega))).trans g.fn,(hA.block _ (Array.getElem?_eq_some_iff.1 g.note).1 (.inr (by omega))).trans g.note,tx_aside g.own hA (by omega),g.below.trans (hA.below (by have := g.far; omega) g.below.size),g.far⟩
theorem GSt.num (g : GSt w P h b k tt e s a tx v ts W) {h' : ByteArray} (hA : Aside P (P + 1) W W') (k1 : W'.heap[P]? = some (.cells #[.string h'] 9)) : GSt w P h' b k tt e s a tx v ts W' :=
 g.text ⟨hA.1,hA.2,hA.3,hA.4,fun q hq ho => hA.block q hq (by omega)⟩ k1 ((hA.block _ (Array.getElem?_eq_some_iff.1 g.body).1 (.inr (by omega))).trans g.body)
theorem GSt.on (g : GSt w P h b k tt e s a tx v ts W) (hb : Below W.heap.size W W') : GSt w P h b k tt e s a tx v ts W' :=
 ⟨block_on g.res hb,block_on g.head hb,block_on g.body hb,block_on g.fn hb,block_on g.note hb,tx_later g.own hb,below_here g.below hb,g.far⟩
theorem GSt.put (g : GSt w P h b k tt e s a tx v ts W) (i : Nat) (u : Value) (k' tt' e' s' a' : Int) (tx' : ByteArray) (v' : Value) (hi : i < 7) (he : (#[.int .i64 k,.int .i64 tt,.int .i64 e,.int .i64 s,.int .i64 a,.string tx,v] : Array Value).set i u (by simpa using hi) = #[.int .i64 k',.int .i64 tt',.int .i64 e',.int .i64 s',.int .i64 a',.string tx',v']) {ts' : List ByteArray} (ho : TxOwn (P + 4) (W.setCell ⟨P + 1 + 1 + 1,i,none⟩ u) v' ts') : GSt w P h b k' tt' e' s' a' tx' v' ts' (W.setCell ⟨P + 1 + 1 + 1,i,none⟩ u) := by
 have hf := g.far
 refine ⟨set_other g.res (by omega) _,set_other g.head (by omega) _,set_other g.body (by omega) _,set_other g.fn (by omega) _,?_,ho,?_,hf⟩
 ·have := set_block g.note i u (by simpa using hi)
  rw [he] at this
  exact this
 ·exact g.below.setCell (p := ⟨P + 1 + 1 + 1,i,none⟩) (by show _ <= _; simp only; omega) _
theorem GSt.keep (g : GSt w P h b k tt e s a tx v ts W) (i : Nat) (u : Value) : TxOwn (P + 4) (W.setCell ⟨P + 1 + 1 + 1,i,none⟩ u) v ts := tx_set g.own g.note (by decide) u
theorem GSt.app (g : GSt w P h b k tt e s a tx v ts W) (x : ByteArray) (hn : ts.length <= 1000) :
  ∃ a' c' w',(Builtin.append_ #[24,24] 24 #[v,.slice (some ⟨W.heap.size,0,none⟩) 1 1]).run Tryd.prog (W.alloc (.cells #[.string x] 9)) = .ok (.slice a' (ts ++ [x]).length c') w' ∧ w'.heap[P + 1 + 1 + 1]? = some (.cells #[.int .i64 k,.int .i64 tt,.int .i64 e,.int .i64 s,.int .i64 a,.string tx,v] 26) ∧ GSt w P h b k tt e s a tx (.slice a' (ts ++ [x]).length c') (ts ++ [x]) (w'.setCell ⟨P + 1 + 1 + 1,6,none⟩ (.slice a' (ts ++ [x]).length c')) := by
 have g2 := g.on ((Below.refl W.heap.size W).alloc (Nat.le_refl _) (.cells #[.string x] 9))
 have hf := g.far
 obtain ⟨W2,hW2⟩ : ∃ W2,W2 = W.alloc (.cells #[.string x] 9) := ⟨_,rfl⟩
 have hL : W2.heap[W.heap.size]? = some (.cells #[.string x] 9) := by rw [hW2]; exact heap_new _ _
 rw [<- hW2] at g2 ⊢
 have hB : P + 4 <= W2.heap.size := by have := (Array.getElem?_eq_some_iff.1 g2.note).1; omega
 obtain ⟨v',w',r1,r2,r3,_⟩ := tx_app (t := 24) Tryd.underlying24 g2.own hB hL (by omega)
 have key : ∀ {q : Nat} {o : Obj},q < P + 4 -> W2.heap[q]? = some o -> w'.heap[q]? = some o := fun {q o} hq ho => (r3.block q (Array.getElem?_eq_some_iff.1 ho).1 (fun e' => by have := (World.ownsRow.lt g2.own q e'.symm).1; omega)).trans ho
 obtain ⟨a',c',e',_⟩ := tx_form r2
 subst e'
 have g3 : GSt w P h b k tt e s a tx v ts w' ∨ True := .inr trivial
 have k1 := key (by omega) g2.res
 have k2 := key (by omega) g2.head
 have k3 := key (by omega) g2.body
 have k4 := key (by omega) g2.fn
 have k5 := key (by omega) g2.note
 refine ⟨a',c',w',r1,k5,set_other k1 (by omega) _,set_other k2 (by omega) _,set_other k3 (by omega) _,set_other k4 (by omega) _,?_,tx_set r2 k5 (by decide) _,?_,hf⟩
 ·have := set_block k5 6 (.slice a' (ts ++ [x]).length c') (by simp)
  simpa using this
 ·exact (g2.below.grown r3 g2.below.size (fun q hq => by have := (World.ownsRow.lt g2.own q hq).1; omega)).setCell (p := ⟨P + 1 + 1 + 1,6,none⟩) (by show _ <= _; simp only; omega) _
end
end Go.Proofs.YtdjifickdcnacaaDoor
end

section
namespace Go.Proofs.YtdjifickdcnacaaDoor
open Go.RowKit
set_option linter.unusedVariables false
set_option linter.unusedSimpArgs false
set_option maxRecDepth 20000
set_option maxHeartbeats 6400000 in
theorem guessed_any (s : ByteArray) (hs : s.size <= 1048576) (w : World) (hE : NEnv w) :
  Calls Tryd.prog 56 #[.string s] w fun r w' => ∃ av cap,r = .returned (noteV (guessN s) av (guessN s).vs.length cap) ∧ (guessN s).vs.length <= cap ∧ OwnTexts w.heap.size w'.heap.size w' av (guessN s).vs.length (guessN s).vs ∧ Below w.heap.size w w' := by
 obtain ⟨w0,hw0⟩ : ∃ w0,w0 = w.alloc (.cells #[.int .i64 0,.int .i64 0,.int .i64 0,.int .i64 0,.int .i64 0,.string ⟨#[]⟩,.slice none 0 0] 26) := ⟨_,rfl⟩
 have HB0 : Hid (Below w.heap.size w w0) := by rw [hw0]; exact (Below.refl _ _).alloc (Nat.le_refl _) _
 have HK : Hid (w0.heap[w.heap.size]? = some (.cells #[.int .i64 0,.int .i64 0,.int .i64 0,.int .i64 0,.int .i64 0,.string ⟨#[]⟩,.slice none 0 0] 26)) := by rw [hw0]; exact heap_new _ _
 have HE := hide hE
 clear hE
 have hmf : ∀ (fn : Fn) (first cap : Array Value) (w : World),(Instr.makeFunc fn first cap).run Tryd.prog w = .ok (.func fn first cap) w := fun _ _ _ _ => rfl
 go_enter Tryd.func56,Tryd.ntmps56
 go_upto_region 1 with fail
 rw [<- hw0]
 clear hw0
 go_wp2_with fail
 refine (cutN_any s ⟨#[10]⟩ hs w0 (HE.out.here HB0.out)).mono ?_
 rintro r w1 ⟨rfl,b1⟩
 have HB1 := hide (below_here HB0.out b1)
 have HK1 := hide (block_on HK.out b1)
 clear b1 HB0 HK
 have hsz : s.data.toList.length = s.size := by simp
 have hcl := cut_len s.data.toList [10]
 obtain ⟨h0,hh0⟩ : ∃ h0,h0 = hd0 s := ⟨_,rfl⟩
 obtain ⟨b0,hb0⟩ : ∃ b0,b0 = bd0 s := ⟨_,rfl⟩
 have hzh : h0.size <= 1048576 := by rw [hh0]; unfold hd0; rw [mkB_size]; omega
 have hzb : b0.size <= 1048576 := by rw [hb0]; unfold bd0; rw [mkB_size]; omega
 have e1 : mkB (Lib.cut s.data.toList ((⟨#[10]⟩ : ByteArray).data.toList)).1 = h0 := by rw [hh0]; rfl
 have e2 : mkB (Lib.cut s.data.toList ((⟨#[10]⟩ : ByteArray).data.toList)).2.1 = b0 := by rw [hb0]; rfl
 obtain ⟨fl,hfl⟩ : ∃ fl,fl = (Lib.cut s.data.toList ((⟨#[10]⟩ : ByteArray).data.toList)).2.2 := ⟨_,rfl⟩
 rw [e1,e2,<- hfl]
 have HH0 := hide hh0
 have HBB0 := hide hb0
 clear e1 e2 hfl hh0 hb0 hcl hsz
 obtain ⟨W4,hW4⟩ : ∃ W4,W4 = (((w1.alloc (.cells #[.string h0] 9)).alloc (.cells #[.string b0] 9)).alloc (.cells #[.func (.func 105) #[] #[.pointer (some ⟨w1.heap.size,0,none⟩)]] 127)).alloc (.cells #[.int .i64 0,.int .i64 0,.int .i64 0,.int .i64 0,.int .i64 0,.string ⟨#[]⟩,.slice none 0 0] 26) := ⟨_,rfl⟩
 have HG : Hid (GSt w w1.heap.size h0 b0 0 0 0 0 0 ⟨#[]⟩ (.slice none 0 0) [] W4) := by
  have hb4 : Below w1.heap.size w1 W4 := by rw [hW4]; exact ((((Below.refl _ _).alloc (Nat.le_refl _) _).alloc (by simp) _).alloc (by simp; omega) _).alloc (by simp; omega) _
  refine ⟨block_on HK1.out hb4,?_,?_,?_,?_,⟨rfl,.inl ⟨rfl,rfl⟩⟩,below_here HB1.out hb4,(Array.getElem?_eq_some_iff.1 HK1.out).1⟩
  ·rw [hW4]; exact heap_old (heap_old (heap_old (heap_new _ _)))
  ·rw [hW4]; exact heap_old (heap_old (heap_at (by simp)))
  ·rw [hW4]; exact heap_old (heap_at (by simp))
  ·rw [hW4]; exact heap_at (by simp)
 go_upto_region 5 with fail
 rw [<- hW4]
 obtain ⟨P,hP⟩ : ∃ P,P = w1.heap.size := ⟨_,rfl⟩
 rw [<- hP] at HG ⊢
 clear hW4 hP HB1 HK1 hmf
 have HG0 := hide HG.out
 have hz0 := hzh
 clear HG hzh
 obtain ⟨W0,hW0⟩ : ∃ W0,W0 = W4 := ⟨_,rfl⟩
 rw [<- hW0] at HG0 ⊢
 clear hW0
 have cf := note_one HG0.out.fn
 go_wp2_with fail
 refine (gnum_any h0 hz0 W0 HG0.out.head (HG0.out.env HE.out)).mono ?_
 rintro r V1 ⟨rfl,kk,aa⟩
 obtain ⟨h1,hh1⟩ : ∃ h1,h1 = nxtH h0 := ⟨_,rfl⟩
 obtain ⟨z0,hn0⟩ : ∃ z0,z0 = numH h0 := ⟨_,rfl⟩
 rw [<- hh1] at kk
 rw [<- hn0]
 have hz1 : h1.size <= 1048576 := by rw [hh1]; exact Nat.le_trans (nxtH_size _) hz0
 have HH1 := hide hh1
 have HN0 := hide hn0
 have HGq := hide (HG0.out.num aa kk)
 clear kk aa cf hh1 hn0 HG0
 obtain ⟨m0,m1,m2,m3,m4,m5,m6⟩ := note_cells HGq.out.note
 obtain ⟨f0,f1,f2,f3,f4,f5,f6⟩ := note_frozen HGq.out.note
 obtain ⟨W1,hW1⟩ : ∃ W1,W1 = V1.setCell ⟨P + 1 + 1 + 1,0,none⟩ (.int .i64 z0) := ⟨_,rfl⟩
 have HG1 : Hid (GSt w P h1 b0 z0 0 0 0 0 ⟨#[]⟩ (.slice none 0 0) [] W1) := by rw [hW1]; exact HGq.out.put 0 (.int .i64 z0) z0 0 0 0 0 ⟨#[]⟩ (.slice none 0 0) (by decide) (by simp) (HGq.out.keep 0 _)
 go_upto_region 6 with fail
 rw [<- hW1]
 clear hW1 HGq m0 m1 m2 m3 m4 m5 m6 f0 f1 f2 f3 f4 f5 f6
 have cf := note_one HG1.out.fn
 go_wp2_with fail
 refine (gnum_any h1 hz1 W1 HG1.out.head (HG1.out.env HE.out)).mono ?_
 rintro r V2 ⟨rfl,kk,aa⟩
 obtain ⟨h2,hh2⟩ : ∃ h2,h2 = nxtH h1 := ⟨_,rfl⟩
 obtain ⟨z1,hn1⟩ : ∃ z1,z1 = numH h1 := ⟨_,rfl⟩
 rw [<- hh2] at kk
 rw [<- hn1]
 have hz2 : h2.size <= 1048576 := by rw [hh2]; exact Nat.le_trans (nxtH_size _) hz1
 have HH2 := hide hh2
 have HN1 := hide hn1
 have HGq := hide (HG1.out.num aa kk)
 clear kk aa cf hh2 hn1 HG1
 obtain ⟨m0,m1,m2,m3,m4,m5,m6⟩ := note_cells HGq.out.note
 obtain ⟨f0,f1,f2,f3,f4,f5,f6⟩ := note_frozen HGq.out.note
 obtain ⟨W2,hW2⟩ : ∃ W2,W2 = V2.setCell ⟨P + 1 + 1 + 1,1,none⟩ (.int .i64 z1) := ⟨_,rfl⟩
 have HG2 : Hid (GSt w P h2 b0 z0 z1 0 0 0 ⟨#[]⟩ (.slice none 0 0) [] W2) := by rw [hW2]; exact HGq.out.put 1 (.int .i64 z1) z0 z1 0 0 0 ⟨#[]⟩ (.slice none 0 0) (by decide) (by simp) (HGq.out.keep 1 _)
 go_upto_region 7 with fail
 rw [<- hW2]
 clear hW2 HGq m0 m1 m2 m3 m4 m5 m6 f0 f1 f2 f3 f4 f5 f6
 have cf := note_one HG2.out.fn
 go_wp2_with fail
 refine (gnum_any h2 hz2 W2 HG2.out.head (HG2.out.env HE.out)).mono ?_
 rintro r V3 ⟨rfl,kk,aa⟩
 obtain ⟨h3,hh3⟩ : ∃ h3,h3 = nxtH h2 := ⟨_,rfl⟩
 obtain ⟨z2,hn2⟩ : ∃ z2,z2 = numH h2 := ⟨_,rfl⟩
 rw [<- hh3] at kk
 rw [<- hn2]
 have hz3 : h3.size <= 1048576 := by rw [hh3]; exact Nat.le_trans (nxtH_size _) hz2
 have HH3 := hide hh3
 have HN2 := hide hn2
 have HGq := hide (HG2.out.num aa kk)
 clear kk aa cf hh3 hn2 HG2
 obtain ⟨m0,m1,m2,m3,m4,m5,m6⟩ := note_cells HGq.out.note
 obtain ⟨f0,f1,f2,f3,f4,f5,f6⟩ := note_frozen HGq.out.note
 obtain ⟨W3,hW3⟩ : ∃ W3,W3 = V3.setCell ⟨P + 1 + 1 + 1,2,none⟩ (.int .i64 z2) := ⟨_,rfl⟩
 have HG3 : Hid (GSt w P h3 b0 z0 z1 z2 0 0 ⟨#[]⟩ (.slice none 0 0) [] W3) := by rw [hW3]; exact HGq.out.put 2 (.int .i64 z2) z0 z1 z2 0 0 ⟨#[]⟩ (.slice none 0 0) (by decide) (by simp) (HGq.out.keep 2 _)
 go_upto_region 8 with fail
 rw [<- hW3]
 clear hW3 HGq m0 m1 m2 m3 m4 m5 m6 f0 f1 f2 f3 f4 f5 f6
 have cf := note_one HG3.out.fn
 go_wp2_with fail
 refine (gnum_any h3 hz3 W3 HG3.out.head (HG3.out.env HE.out)).mono ?_
 rintro r V4 ⟨rfl,kk,aa⟩
 obtain ⟨h4,hh4⟩ : ∃ h4,h4 = nxtH h3 := ⟨_,rfl⟩
 obtain ⟨z3,hn3⟩ : ∃ z3,z3 = numH h3 := ⟨_,rfl⟩
 rw [<- hh4] at kk
 rw [<- hn3]
 have hz4 : h4.size <= 1048576 := by rw [hh4]; exact Nat.le_trans (nxtH_size _) hz3
 have HH4 := hide hh4
 have HN3 := hide hn3
 have HGq := hide (HG3.out.num aa kk)
 clear kk aa cf hh4 hn3 HG3
 obtain ⟨m0,m1,m2,m3,m4,m5,m6⟩ := note_cells HGq.out.note
 obtain ⟨f0,f1,f2,f3,f4,f5,f6⟩ := note_frozen HGq.out.note
 obtain ⟨W4,hW4⟩ : ∃ W4,W4 = V4.setCell ⟨P + 1 + 1 + 1,3,none⟩ (.int .i64 z3) := ⟨_,rfl⟩
 have HG4 : Hid (GSt w P h4 b0 z0 z1 z2 z3 0 ⟨#[]⟩ (.slice none 0 0) [] W4) := by rw [hW4]; exact HGq.out.put 3 (.int .i64 z3) z0 z1 z2 z3 0 ⟨#[]⟩ (.slice none 0 0) (by decide) (by simp) (HGq.out.keep 3 _)
 go_upto_region 9 with fail
 rw [<- hW4]
 clear hW4 HGq m0 m1 m2 m3 m4 m5 m6 f0 f1 f2 f3 f4 f5 f6
 have cf := note_one HG4.out.fn
 go_wp2_with fail
 refine (gnum_any h4 hz4 W4 HG4.out.head (HG4.out.env HE.out)).mono ?_
 rintro r V5 ⟨rfl,kk,aa⟩
 obtain ⟨h5,hh5⟩ : ∃ h5,h5 = nxtH h4 := ⟨_,rfl⟩
 obtain ⟨z4,hn4⟩ : ∃ z4,z4 = numH h4 := ⟨_,rfl⟩
 rw [<- hh5] at kk
 rw [<- hn4]
 have hz5 : h5.size <= 1048576 := by rw [hh5]; exact Nat.le_trans (nxtH_size _) hz4
 have HH5 := hide hh5
 have HN4 := hide hn4
 have HGq := hide (HG4.out.num aa kk)
 clear kk aa cf hh5 hn4 HG4
 obtain ⟨m0,m1,m2,m3,m4,m5,m6⟩ := note_cells HGq.out.note
 obtain ⟨f0,f1,f2,f3,f4,f5,f6⟩ := note_frozen HGq.out.note
 obtain ⟨W5,hW5⟩ : ∃ W5,W5 = V5.setCell ⟨P + 1 + 1 + 1,4,none⟩ (.int .i64 z4) := ⟨_,rfl⟩
 have HG5 : Hid (GSt w P h5 b0 z0 z1 z2 z3 z4 ⟨#[]⟩ (.slice none 0 0) [] W5) := by rw [hW5]; exact HGq.out.put 4 (.int .i64 z4) z0 z1 z2 z3 z4 ⟨#[]⟩ (.slice none 0 0) (by decide) (by simp) (HGq.out.keep 4 _)
 go_upto_region 10 with fail
 rw [<- hW5]
 clear hW5 HGq m0 m1 m2 m3 m4 m5 m6 f0 f1 f2 f3 f4 f5 f6
 have HW5 := HG5
 go_wp2_with fail
 refine (gtext_any (ph := P) (pn := P + 1 + 1) h5 b0 hz5 hzb W5 HG5.out.head HG5.out.body HG5.out.fn (HG5.out.env HE.out)).mono ?_
 rintro r V6 ⟨rfl,kk,kb,aa⟩
 obtain ⟨h6,hh6⟩ : ∃ h6,h6 = nxtH h5 := ⟨_,rfl⟩
 obtain ⟨t5,ht5⟩ : ∃ t5,t5 = txtH h5 b0 := ⟨_,rfl⟩
 obtain ⟨b1,hb1⟩ : ∃ b1,b1 = bodH h5 b0 := ⟨_,rfl⟩
 rw [<- hh6] at kk
 rw [<- hb1] at kb
 rw [<- ht5]
 have hz6 : h6.size <= 1048576 := by rw [hh6]; exact Nat.le_trans (nxtH_size _) hz5
 have hzb1 : b1.size <= 1048576 := by rw [hb1]; exact Nat.le_trans (bodH_size _ _) hzb
 have HH6 := hide hh6
 have HT5 := hide ht5
 have HB1 := hide hb1
 have HGq := hide (HG5.out.text aa kk kb)
 clear kk kb aa hh6 ht5 hb1 HG5 HW5
 obtain ⟨m0,m1,m2,m3,m4,m5,m6⟩ := note_cells HGq.out.note
 obtain ⟨f0,f1,f2,f3,f4,f5,f6⟩ := note_frozen HGq.out.note
 obtain ⟨W6,hW6⟩ : ∃ W6,W6 = V6.setCell ⟨P + 1 + 1 + 1,5,none⟩ (.string t5) := ⟨_,rfl⟩
 have HG6 : Hid (GSt w P h6 b1 z0 z1 z2 z3 z4 t5 (.slice none 0 0) [] W6) := by rw [hW6]; exact HGq.out.put 5 (.string t5) z0 z1 z2 z3 z4 t5 (.slice none 0 0) (by decide) (by simp) (HGq.out.keep 5 _)
 go_upto_region 11 with fail
 rw [<- hW6]
 clear hW6 HGq m0 m1 m2 m3 m4 m5 m6 f0 f1 f2 f3 f4 f5 f6
 have cf := note_one HG6.out.fn
 go_wp2_with fail
 refine (gnum_any h6 hz6 W6 HG6.out.head (HG6.out.env HE.out)).mono ?_
 rintro r W7 ⟨rfl,kk,aa⟩
 obtain ⟨h7,hh7⟩ : ∃ h7,h7 = nxtH h6 := ⟨_,rfl⟩
 obtain ⟨z6,hn6⟩ : ∃ z6,z6 = numH h6 := ⟨_,rfl⟩
 rw [<- hh7] at kk
 rw [<- hn6]
 have hz7 : h7.size <= 1048576 := by rw [hh7]; exact Nat.le_trans (nxtH_size _) hz6
 have HH7 := hide hh7
 have HN6 := hide hn6
 have HG7 := hide (HG6.out.num aa kk)
 clear kk aa cf hh7 hn6 HG6
 go_upto_region 12 with fail
 obtain ⟨mn,hmn⟩ : ∃ mn,mn = min z6 64 := ⟨_,rfl⟩
 rw [<- hmn]
 obtain ⟨N,hN⟩ : ∃ N,N = mn.toNat := ⟨_,rfl⟩
 have hN64 : N <= 64 := by rw [hN,hmn]; omega
 have HEQ : Hid (guessN s = ⟨z0,z1,z2,z3,z4,t5,(gvF h7 b1 N).2.2⟩) := by
  show _ = _
  rw [hN,hmn,HN0.out,HN1.out,HN2.out,HN3.out,HN4.out,HN6.out,HT5.out,HB1.out,HH7.out,HH6.out,HH5.out,HH4.out,HH3.out,HH2.out,HH1.out,HH0.out,HBB0.out]
  rfl
 have HNM : Hid (N = mn.toNat) := hN
 clear hmn hN HN0 HN1 HN2 HN3 HN4 HN6 HT5 HB1 HH7 HH6 HH5 HH4 HH3 HH2 HH1 HH0 HBB0 hz0 hz1 hz2 hz3 hz4 hz5 hz6
 go_loopw [39] (fun i wr => ∃ (j : Nat) (v : Value),j <= N ∧ i = .int .i64 (j : Int) ∧ GSt w P (gvF h7 b1 j).1 (gvF h7 b1 j).2.1 z0 z1 z2 z3 z4 t5 v (gvF h7 b1 j).2.2 wr) (fun i _ => N - (intOf i).toNat)
 case atStart => exact ⟨0,.slice none 0 0,Nat.zero_le _,rfl,HG7.out⟩
 case round =>
  obtain ⟨j,v,hj,rfl,hg⟩ := hrel
  have HG := hide hg
  clear hg HG7
  by_cases hjm : (j : Int) < mn
  ·have hjN : j < N := by have := HNM.out; omega
   obtain ⟨hs1,hs2,_⟩ := gvF_size h7 b1 j
   have hl := gvF_len h7 b1 j
   have HNX : Hid (gvF h7 b1 (j + 1) = (nxtH (gvF h7 b1 j).1,bodH (gvF h7 b1 j).1 (gvF h7 b1 j).2.1,(gvF h7 b1 j).2.2 ++ [txtH (gvF h7 b1 j).1 (gvF h7 b1 j).2.1])) := rfl
   generalize (gvF h7 b1 j).1 = H at *
   generalize (gvF h7 b1 j).2.1 = D at *
   generalize (gvF h7 b1 j).2.2 = L at *
   have HR0 : Hid (Below wr.heap.size wr wr.drew) := (Below.refl wr.heap.size wr).drew
   have HTX : ∀ W,Hid (Below wr.heap.size wr W -> Calls Tryd.prog 107 #[.pointer (some ⟨P + 1 + 1,0,none⟩),.pointer (some ⟨P + 1,0,none⟩)] W fun e w' => e = .returned (.string (txtH H D)) ∧ GSt w P (nxtH H) (bodH H D) z0 z1 z2 z3 z4 t5 v L w') := fun W hb => (gtext_any (ph := P) (pn := P + 1 + 1) H D (by omega) (by omega) W (HG.out.on hb).head (HG.out.on hb).body (HG.out.on hb).fn ((HG.out.on hb).env HE.out)).mono (by
    rintro e w' ⟨rfl,kk,kb,aa⟩
    exact ⟨rfl,(HG.out.on hb).text aa kk kb⟩)
   obtain ⟨X,hX⟩ : ∃ X,X = txtH H D := ⟨_,rfl⟩
   rw [<- hX] at HTX HNX
   obtain ⟨n',hn'⟩ : ∃ n',n' = (L ++ [X]).length := ⟨_,rfl⟩
   have HAP : ∀ W,Hid (GSt w P (nxtH H) (bodH H D) z0 z1 z2 z3 z4 t5 v L W -> ∃ a' c' w',(Builtin.append_ #[24,24] 24 #[v,.slice (some ⟨W.heap.size,0,none⟩) 1 1]).run Tryd.prog (W.alloc (.cells #[.string X] 9)) = .ok (.slice a' n' c') w' ∧ w'.heap[P + 1 + 1 + 1]? = some (.cells #[.int .i64 z0,.int .i64 z1,.int .i64 z2,.int .i64 z3,.int .i64 z4,.string t5,v] 26) ∧ GSt w P (nxtH H) (bodH H D) z0 z1 z2 z3 z4 t5 (.slice a' n' c') (L ++ [X]) (w'.setCell ⟨P + 1 + 1 + 1,6,none⟩ (.slice a' n' c'))) := fun W hg => by rw [hn']; exact hg.app X (by omega)
   have cv := (note_cells HG.out.note).2.2.2.2.2.2
   clear hX hn' hs1 hs2 hl
   go_upto_region 13 with fail
   go_region_law (first
    | (refine step_appn (by rfl) _ _ 24 (by rfl) _ _ _ w5 (by rfl) (by rfl) HRN.out ?_)
    | (go_simp; go_at_call 107; refine ((HTX _).out HR0.out).mono ?_; rintro e V1 ⟨rfl,g1⟩; have HG1 := hide g1; have HG2 := hide (g1.on ((Below.refl V1.heap.size V1).alloc (Nat.le_refl _) (.cells #[.string X] 9))); obtain ⟨a',c',w5,hrun,hk5,hgs⟩ := (HAP V1).out g1; have HRN := hide hrun; have c1 := (note_cells HG1.out.note).2.2.2.2.2.2; have c2 := (note_cells HG2.out.note).2.2.2.2.2.2; have c5 := (note_cells hk5).2.2.2.2.2.2; have f5 := four_frozen hk5 6; have HGS := hide hgs; clear g1 hrun hk5 hgs)
    | fail)
   all_goals
    go_wp2_with fail
    go_roundw
    case rel => exact ⟨j + 1,_,by omega,by go_num,by rw [HNX.out]; exact HGS.out⟩
    case measure => simp [intOf]; omega
  ·obtain rfl : j = N := by have := HNM.out; omega
   obtain ⟨L,hL⟩ : ∃ L,L = (gvF h7 b1 j).2.2 := ⟨_,rfl⟩
   have hz := (gvF_size h7 b1 j).2.2
   rw [<- hL] at HEQ HG hz
   clear hL
   generalize (gvF h7 b1 j).1 = H at *
   generalize (gvF h7 b1 j).2.1 = D at *
   obtain ⟨av,cap,rfl,hcap,hown⟩ := tx_texts HG.out.own
   obtain ⟨n,hn⟩ : ∃ n,n = L.length := ⟨_,rfl⟩
   rw [<- hn] at hcap hown HG
   have HN := hide hn
   have HCAP := hide hcap
   have HOWN := hide hown
   obtain ⟨m0,m1,m2,m3,m4,m5,m6⟩ := note_cells HG.out.note
   obtain ⟨d0,d1,d2,d3,d4,d5,d6⟩ := note_cells HG.out.res
   obtain ⟨f0,f1,f2,f3,f4,f5,f6⟩ := note_frozen HG.out.res
   have HF := hide (note_set HG.out.res (.int .i64 z0) (.int .i64 z1) (.int .i64 z2) (.int .i64 z3) (.int .i64 z4) (.string t5) (.slice av n cap))
   have HAS := hide (note_aside (Aside.refl w.heap.size (w.heap.size + 1) wr) (Nat.le_refl _) (Nat.lt_succ_self _) (.int .i64 z0) (.int .i64 z1) (.int .i64 z2) (.int .i64 z3) (.int .i64 z4) (.string t5) (.slice av n cap))
   have HBF := hide (HG.out.below.trans (HAS.out.below (B := w.heap.size) (Nat.le_refl _) HG.out.below.size))
   have HOA := hide (HOWN.out.aside HAS.out (.inr (by have := HG.out.far; omega)))
   have HFAR := hide HG.out.far
   clear hn hcap hown
   go_wp2_with fail
   refine bodyPost_ret (results_cell rfl rfl (run_loadVar_row _ _ _ _ _ _ _ HF.out Tryd.underlying26 rfl (by kernel_rfl))) rfl ?_
   rw [HEQ.out]
   refine ⟨av,cap,?_,?_,?_,HBF.out⟩
   ·show _ = Ending.returned (noteV ⟨z0,z1,z2,z3,z4,t5,L⟩ av L.length cap)
    rw [<- HN.out]
    rfl
   ·show L.length <= cap
    rw [<- HN.out]
    exact HCAP.out
   ·show OwnTexts _ _ _ _ L.length L
    rw [<- HN.out]
    refine ⟨HOA.out.1,Nat.le_refl _,fun h0 => ?_⟩
    obtain ⟨b',o',e1,e2,e3,e4⟩ := HOA.out.2.2 h0
    exact ⟨b',o',e1,by have := HFAR.out; omega,Nat.lt_of_lt_of_le e3 (by have := HAS.out.size; omega),e4⟩
end Go.Proofs.YtdjifickdcnacaaDoor
end

