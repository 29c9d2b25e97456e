package sample

// Texts are programs with all that there is of the language.
func Texts() []string {
	return []string{
		"int main(){return 1;}",
		"int x=3;unsigned char a[3]={1,-2};void*v=0;int main(){x=a[1];v=v;*a+=3;put(x-a[0]);return sizeof(int*);}long*q[2]={0,0};",
		"long f(int a,char*b,void**c,unsigned long d){while(a--){*b++=(char)d>>1;if(!*c)break;else continue;}return b-&b[-1];}int main(){char s[9];void*n;put(f(1,s,&n,sizeof(long)));}",
		"int main(){int i;int i2=3;for(i=0;i<9;i++){int i=i2;{long i=i2;put(i++);}}switch(i&3){case 0:case -1:put(1);default:exit(get());}do;while(i--);}",
		"void g(){again:put(get());if(get())goto again;else goto out;for(;;);out:return;}int main(){g();int*p=0;int**r=&p;int***t=&r;int y[2];***t=(*r=y)==0||t!=0?p[1]:-~7;return*p;}",
		"int main(){unsigned int u=4294967295;short s=u<<2;u^=s|3;s=u%7;long l=s?u:s;l*=(unsigned short)l;put(l);return l>u;}int h(int main,int x){int h;return main+x;}",
		"char c;int even(int n){if(n==0)return 1;return odd(n-1);}int odd(int n){return n?even(n-1):0;}int main(void){c=even(7);;{}put(c);return c;}",
	}
}
